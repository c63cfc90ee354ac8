package table

import (
	"slices"
	"strings"

	"ostiary/audit"
	"ostiary/eval"
	"ostiary/group"
	"ostiary/pol"
)

// pair is a set of users and one of machines: whoever is one of these at one of those.
type pair struct{ users, hosts uint32 }

// nobody: is there nobody in it? Users without a machine are nobody, and machines without a user, too.
func (p pair) nobody() bool { return p.users == 0 || p.hosts == 0 }

func (p pair) has(o pair) bool { return pair{p.users & o.users, p.hosts & o.hosts} == o }

// lit is a literal as all who have its name.
type lit struct {
	pair
	not bool
}

// each does something with each pair that is left of one by literals. Whoever has a name has it as a user, or else by his machine alone: so nobody is in two pairs.
func (p pair) each(do func(pair), l ...lit) {
	switch {
	case p.nobody():
	case len(l) == 0:
		do(p)
	case l[0].not:
		pair{p.users &^ l[0].users, p.hosts &^ l[0].hosts}.each(do, l[1:]...)
	default:
		pair{p.users & l[0].users, p.hosts}.each(do, l[1:]...)
		pair{p.users &^ l[0].users, p.hosts & l[0].hosts}.each(do, l[1:]...)
	}
}

// crowd is users and machines; each one's bit is that of his number.
type crowd struct{ users, hosts []string }

// crowdOf keeps copies, so that it holds on to no name that was handed in.
func crowdOf(users, hosts []string) crowd { return crowd{copies(users), copies(hosts)} }

func copies(l []string) []string {
	l = slices.Clone(l)
	for i, name := range l {
		l[i] = strings.Clone(name)
	}
	return l
}

func (c crowd) all() pair { return c.those(func(string) bool { return true }) }

func (c crowd) those(so func(string) bool) pair { return pair{set(c.users, so), set(c.hosts, so)} }

// lits are asked by the user's part alone: whether it is a user or a machine that has a name plays no part.
func (c crowd) lits(s group.Sets, l []pol.Lit) []lit {
	var out []lit
	for _, x := range l {
		named := pol.Lit{Name: x.Name}
		have := c.those(func(who string) bool { return eval.Fits(s, audit.Who{User: who}, named) })
		out = append(out, lit{have, x.Not})
	}
	return out
}

// find: somebody's bits; none of what is not known.
func (c crowd) find(who audit.Who) pair {
	return pair{
		set(c.users, func(name string) bool { return name == who.User }),
		set(c.hosts, func(name string) bool { return name == who.Host }),
	}
}

// set: the bits of all that are so.
func set(l []string, so func(string) bool) uint32 {
	var bits uint32
	for i, name := range l {
		if so(name) {
			bits |= 1 << i
		}
	}
	return bits
}

// twice: does one of them stand there twice?
func twice(l []string) bool {
	slices.Sort(l)
	return len(slices.Compact(l)) < len(l)
}
