package pol

import (
	"strconv"
	"strings"

	"ostiary/api"
)

// acts are the words of what a rule says, in the order of their numbers.
var acts = [4]string{"allow", "deny", "outbound", "via"}

// actOf: the number of a word, 0 of any other text.
func actOf(s string) int {
	for i, w := range acts {
		if s == w {
			return Allow + i
		}
	}
	return 0
}

// What follows takes groups and rules that may be alone.

func (g Group) text() string {
	return "group " + g.Name + " = " + strings.Join(g.Members, ", ") + ";\n"
}

func (u Rule) text() string {
	return acts[u.Act-Allow] + u.viaText() + ": " + whoText(u.From) + " -> " + whoText(u.To) + u.protoText() + u.portsText() + ";\n"
}

func (u Rule) viaText() string {
	if len(u.Via) == 0 {
		return ""
	}
	return " " + joined(u.Via, ", ", strconv.Itoa)
}

func whoText(l []Lit) string {
	if len(l) == 0 {
		return "any"
	}
	return joined(l, " & ", Lit.text)
}

func (l Lit) text() string {
	if l.Not {
		return "!" + l.Name
	}
	return l.Name
}

func (u Rule) protoText() string {
	switch u.Proto {
	case AnyProto:
		return ""
	case api.Tcp:
		return " tcp"
	case api.Udp:
		return " udp"
	}
	return " ip " + strconv.Itoa(u.Proto)
}

func (u Rule) portsText() string {
	if !u.Ports {
		return ""
	}
	s := " port " + strconv.Itoa(u.Lo)
	if u.Hi != u.Lo {
		s += "-" + strconv.Itoa(u.Hi)
	}
	return s
}

// joined: the texts of all that a list has, with a sign between.
func joined[T any](l []T, sign string, text func(T) string) string {
	parts := make([]string, len(l))
	for i, v := range l {
		parts[i] = text(v)
	}
	return strings.Join(parts, sign)
}
