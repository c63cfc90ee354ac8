package group

import (
	"slices"
	"strings"

	"ostiary/api"
	"ostiary/pol"
	"ostiary/shelf"
)

// book is what a policy's names are looked up in.
type book struct {
	known   map[string]struct{}
	members *shelf.Shelf[string, []string] // by groups
	most    int                            // as many members as all groups have
}

func bookOf(p pol.Policy, known []string) book {
	b := book{known: map[string]struct{}{}, members: shelf.NewShelf[string, []string](api.MaxGroups)}
	for _, name := range known {
		b.known[name] = struct{}{}
	}
	for _, g := range p.Groups {
		b.members.Set(g.Name, g.Members)
		b.most += len(g.Members)
	}
	return b
}

func (b book) knows(name string) bool {
	_, ok := b.known[name]
	return ok
}

func (b book) groups(name string) bool {
	_, ok := b.members.Get(name)
	return ok
}

// lacks: is it neither known nor a group?
func (b book) lacks(name string) bool { return !b.knows(name) && !b.groups(name) }

// within: a group's members, theirs, and so on. None is gone into twice, as many ways may lead to one, and some round in a circle.
func (b book) within(group string) *names {
	all := shelf.NewShelf[string, struct{}](b.most)
	var walk func(group string)
	walk = func(group string) {
		members, _ := b.members.Get(group)
		for _, name := range members {
			if _, ok := all.Get(name); !ok {
				all.Set(strings.Clone(name), struct{}{})
				walk(name)
			}
		}
	}
	walk(group)
	return all
}

func (b book) inItself(group string) bool {
	_, ok := b.within(group).Get(group)
	return ok
}

// sets: of what is within a group the groups are no members of it.
func (b book) sets() Sets {
	s := Sets{shelf.NewShelf[string, *names](api.MaxGroups)}
	for _, group := range b.members.Keys() {
		all := b.within(group)
		all.Drop(func(name string, _ struct{}) bool { return b.groups(name) })
		s.groups.Set(strings.Clone(group), all)
	}
	return s
}

func groupNames(p pol.Policy) []string {
	var l []string
	for _, g := range p.Groups {
		l = append(l, g.Name)
	}
	return l
}

// usedNames: those of members, then those of literals.
func usedNames(p pol.Policy) []string {
	var l []string
	for _, g := range p.Groups {
		l = append(l, g.Members...)
	}
	for _, u := range p.Rules {
		for _, lit := range slices.Concat(u.From, u.To) {
			l = append(l, lit.Name)
		}
	}
	return l
}

// first: of a policy's names the first one that is so, "" if none is. A name that is told is a copy, so that it holds on to none that was handed in; no name of a policy that may be is empty.
func first(l []string, so func(string) bool) string {
	if i := slices.IndexFunc(l, so); i >= 0 {
		return strings.Clone(l[i])
	}
	return ""
}
