package pol

import (
	"slices"

	"ostiary/api"
	"ostiary/lex"
	"ostiary/talk"
)

// How many members and literals there are at most, and the greatest numbers of protocols and ports.
const (
	mostMembers = 16
	mostLits    = 4
	mostProto   = 255
	mostPort    = 65535
)

// good: may it be the name of somebody or of a group?
func good(s string) bool { return talk.Name(s) && !lex.Reserved(s) }

func within(n, lo, hi int) bool { return lo <= n && n <= hi }

// withPorts: may ports stand behind a protocol?
func withPorts(proto int) bool { return proto == api.Tcp || proto == api.Udp }

func all[T any](l []T, may func(T) bool) bool {
	return !slices.ContainsFunc(l, func(v T) bool { return !may(v) })
}

// unlike: have no two groups the same name?
func unlike(l []Group) bool {
	for i, g := range l {
		if named(l[:i], g.Name) {
			return false
		}
	}
	return true
}

func named(l []Group, name string) bool {
	return slices.ContainsFunc(l, func(g Group) bool { return g.Name == name })
}

func (g Group) may() bool {
	return good(g.Name) && within(len(g.Members), 1, mostMembers) && all(g.Members, good)
}

func (l Lit) may() bool { return good(l.Name) }

func (u Rule) may() bool {
	return within(u.Act, Allow, Via) && u.mayVia() && mayWho(u.From) && mayWho(u.To) &&
		within(u.Proto, AnyProto, mostProto) && u.mayPorts()
}

func (u Rule) mayVia() bool {
	if u.Act != Via {
		return len(u.Via) == 0
	}
	return within(len(u.Via), 1, api.MaxVia) && all(u.Via, maySwitch)
}

func maySwitch(n int) bool { return within(n, 1, api.MaxSwitch) }

func mayWho(l []Lit) bool { return len(l) <= mostLits && all(l, Lit.may) }

func (u Rule) mayPorts() bool {
	if !u.Ports {
		return u.Lo == 0 && u.Hi == 0
	}
	return withPorts(u.Proto) && within(u.Lo, 0, mostPort) && within(u.Hi, u.Lo, mostPort)
}
