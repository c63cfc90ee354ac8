package pol_test

import (
	"fmt"
	"regexp"
	"slices"
	"strings"

	"ostiary/api"
	"ostiary/lex"
	"ostiary/pol"
)

// next tells what may stand where: by a state, and the sort of a token, the state behind it. At "top" a policy may end.
var next = map[string]map[string]string{
	"top":      {"group": "group", "allow": "act", "deny": "act", "outbound": "act", "via": "number"},
	"group":    {"name": "is"},
	"is":       {"=": "member"},
	"member":   {"name": "members"},
	"members":  {",": "member", ";": "top"},
	"number":   {"number": "numbers"},
	"numbers":  {",": "number", ":": "from"},
	"act":      {":": "from"},
	"from":     {"any": "anyfrom", "!": "notfrom", "name": "froms"},
	"onefrom":  {"!": "notfrom", "name": "froms"},
	"notfrom":  {"name": "froms"},
	"froms":    {"&": "onefrom", "->": "to"},
	"anyfrom":  {"->": "to"},
	"to":       {"any": "anyto", "!": "notto", "name": "tos"},
	"oneto":    {"!": "notto", "name": "tos"},
	"notto":    {"name": "tos"},
	"tos":      {"&": "oneto", "tcp": "ports", "udp": "ports", "ip": "protocol", ";": "top"},
	"anyto":    {"tcp": "ports", "udp": "ports", "ip": "protocol", ";": "top"},
	"protocol": {"number": "end"},
	"ports":    {"port": "low", ";": "top"},
	"low":      {"number": "lows"},
	"lows":     {"-": "high", ";": "top"},
	"high":     {"number": "end"},
	"end":      {";": "top"},
}

var reserved = []string{"group", "allow", "deny", "outbound", "via", "any", "tcp", "udp", "ip", "port"}

var aName = regexp.MustCompile(`^[a-z][a-z0-9]{0,7}$`)

func isName(s string) bool { return aName.MatchString(s) && !slices.Contains(reserved, s) }

func sortOf(t lex.Token) string {
	switch {
	case t.Kind == lex.Number:
		return "number"
	case isName(t.Text):
		return "name"
	}
	return t.Text
}

// machine reads a policy by states.
type machine struct {
	state string
	p     pol.Policy
	g     pol.Group
	u     pol.Rule
	not   bool
}

// model is Parse, as the chapter tells it.
func model(s string) (pol.Policy, int, api.Errno) {
	l, at, e := lex.Split(s)
	if e != api.OK {
		return pol.Policy{}, at, e
	}
	m := machine{state: "top"}
	for _, t := range l {
		to, e := next[m.state][sortOf(t)], api.ErrSyntax
		if to != "" {
			e = m.eat(t)
		}
		if e != api.OK {
			return pol.Policy{}, t.At, e
		}
		m.state = to
	}
	if m.state != "top" {
		return pol.Policy{}, len(s), api.ErrSyntax
	}
	return m.p, 0, api.OK
}

func (m *machine) eat(t lex.Token) api.Errno {
	if t.Text == ";" {
		if m.state == "members" {
			m.p.Groups = append(m.p.Groups, m.g)
		} else {
			m.p.Rules = append(m.p.Rules, m.u)
		}
		return api.OK
	}
	switch m.state {
	case "top":
		return m.begin(t.Text)
	case "group":
		m.g.Name = t.Text
		if slices.ContainsFunc(m.p.Groups, func(g pol.Group) bool { return g.Name == t.Text }) {
			return api.ErrThere
		}
	case "member":
		m.g.Members = append(m.g.Members, t.Text)
		return bound(api.ErrFull, len(m.g.Members), 1, 16)
	case "number":
		m.u.Via = append(m.u.Via, t.Num)
		return firstOf(bound(api.ErrFull, len(m.u.Via), 1, 4), bound(api.ErrRange, t.Num, 1, 8))
	case "from", "onefrom", "notfrom":
		return m.literal(&m.u.From, t.Text)
	case "to", "oneto", "notto":
		return m.literal(&m.u.To, t.Text)
	case "tos", "anyto":
		switch t.Text {
		case "tcp":
			m.u.Proto = 6
		case "udp":
			m.u.Proto = 17
		}
	case "protocol":
		m.u.Proto = t.Num
		return bound(api.ErrRange, t.Num, 0, 255)
	case "low":
		m.u.Ports, m.u.Lo, m.u.Hi = true, t.Num, t.Num
		return bound(api.ErrRange, t.Num, 0, 65535)
	case "high":
		m.u.Hi = t.Num
		return bound(api.ErrRange, t.Num, m.u.Lo, 65535)
	}
	return api.OK
}

func (m *machine) begin(word string) api.Errno {
	if word == "group" {
		m.g = pol.Group{}
		return bound(api.ErrFull, len(m.p.Groups), 0, 15)
	}
	m.u = pol.Rule{Act: 1 + slices.Index([]string{"allow", "deny", "outbound", "via"}, word), Proto: -1}
	return bound(api.ErrFull, len(m.p.Rules), 0, 63)
}

// literal takes a name, or the ! ahead of one, with which the literal begins.
func (m *machine) literal(l *[]pol.Lit, text string) api.Errno {
	switch text {
	case "any":
	case "!":
		m.not = true
		return bound(api.ErrFull, len(*l), 0, 3)
	default:
		if !m.not && len(*l) == 4 {
			return api.ErrFull
		}
		*l = append(*l, pol.Lit{Not: m.not, Name: text})
		m.not = false
	}
	return api.OK
}

func bound(e api.Errno, n, lo, hi int) api.Errno {
	if n < lo || n > hi {
		return e
	}
	return api.OK
}

func firstOf(l ...api.Errno) api.Errno {
	for _, e := range l {
		if e != api.OK {
			return e
		}
	}
	return api.OK
}

// say tells a policy in words that are each by themselves: what Print makes of them is for the tests to say.
func say(p pol.Policy) []string {
	var l []string
	put := func(words ...string) { l = append(l, words...) }
	who := func(lits []pol.Lit) {
		if len(lits) == 0 {
			put("any")
		}
		for i, lit := range lits {
			if i > 0 {
				put("&")
			}
			if lit.Not {
				put("!")
			}
			put(lit.Name)
		}
	}
	for _, g := range p.Groups {
		put("group", g.Name, "=")
		for i, m := range g.Members {
			if i > 0 {
				put(",")
			}
			put(m)
		}
		put(";")
	}
	for _, u := range p.Rules {
		put([]string{"allow", "deny", "outbound", "via"}[u.Act-1])
		for i, n := range u.Via {
			if i > 0 {
				put(",")
			}
			put(fmt.Sprint(n))
		}
		put(":")
		who(u.From)
		put("->")
		who(u.To)
		switch {
		case u.Proto == 6:
			put("tcp")
		case u.Proto == 17:
			put("udp")
		case u.Proto >= 0:
			put("ip", fmt.Sprint(u.Proto))
		}
		if u.Ports {
			put("port", fmt.Sprint(u.Lo))
			if u.Hi != u.Lo {
				put("-", fmt.Sprint(u.Hi))
			}
		}
		put(";")
	}
	return l
}

// tight are those signs ahead of which no blank stands; behind - none stands either, and none behind !.
var tight = regexp.MustCompile(` ([,:;-])( |\n|$)`)

// modelPrint is Print of policies that may be.
func modelPrint(p pol.Policy) string {
	s := strings.Join(say(p), " ")
	s = strings.ReplaceAll(s, " ; ", ";\n")
	for tight.MatchString(s) {
		s = tight.ReplaceAllString(s, "$1$2")
	}
	s = regexp.MustCompile(`([0-9]-) `).ReplaceAllString(s, "$1")
	s = strings.ReplaceAll(s, "! ", "!")
	if s != "" {
		s += "\n"
	}
	return s
}
