package group_test

import (
	"fmt"
	"maps"
	"math/rand"
	"slices"
	"testing"

	"ostiary/api"
	"ostiary/group"
	"ostiary/pol"
)

// answer is what Resolve says, and, if it is OK, each group with all that it has.
type answer struct {
	name string
	e    api.Errno
	sets map[string][]string
}

// model is Resolve, as the chapter tells it: what a group has grows till nothing more comes.
func model(p pol.Policy, known ...string) answer {
	if !pol.May(p) {
		return answer{e: api.ErrArg}
	}
	isGroup := map[string]bool{}
	for _, g := range p.Groups {
		if slices.Contains(known, g.Name) {
			return answer{name: g.Name, e: api.ErrThere}
		}
		isGroup[g.Name] = true
	}
	for _, name := range usedBy(p) {
		if !isGroup[name] && !slices.Contains(known, name) {
			return answer{name: name, e: api.ErrName}
		}
	}
	within := closed(p)
	sets := map[string][]string{}
	for _, g := range p.Groups {
		if within[g.Name][g.Name] {
			return answer{name: g.Name, e: api.ErrCycle}
		}
		for _, name := range slices.Sorted(maps.Keys(within[g.Name])) {
			if !isGroup[name] {
				sets[g.Name] = append(sets[g.Name], name)
			}
		}
	}
	return answer{sets: sets}
}

// usedBy tells the names of members and literals, in the order in which they are asked.
func usedBy(p pol.Policy) []string {
	var l []string
	for _, g := range p.Groups {
		l = append(l, g.Members...)
	}
	for _, u := range p.Rules {
		for _, lit := range u.From {
			l = append(l, lit.Name)
		}
		for _, lit := range u.To {
			l = append(l, lit.Name)
		}
	}
	return l
}

// closed tells of each group all names within it.
func closed(p pol.Policy) map[string]map[string]bool {
	within := map[string]map[string]bool{}
	for _, g := range p.Groups {
		within[g.Name] = map[string]bool{}
		for _, m := range g.Members {
			within[g.Name][m] = true
		}
	}
	for range len(p.Groups) {
		for _, all := range within {
			for _, name := range slices.Collect(maps.Keys(all)) {
				maps.Copy(all, within[name])
			}
		}
	}
	return within
}

// resolved tells what Resolve says, and asks the sets of all that may be asked.
func resolved(t *testing.T, p pol.Policy, known ...string) answer {
	t.Helper()
	s, name, e := group.Resolve(p, known...)
	got := answer{name: name, e: e}
	asked := append(append(slices.Clone(known), usedBy(p)...), "", "nobody", "any")
	for _, g := range p.Groups {
		asked = append(asked, g.Name)
	}
	if e == api.OK {
		got.sets = map[string][]string{}
		for _, g := range s.Names() {
			got.sets[g] = s.Members(g)
		}
		if !slices.Equal(s.Names(), slices.Sorted(maps.Keys(got.sets))) {
			t.Errorf("Names of %+v: %q", p, s.Names())
		}
	} else if len(s.Names()) > 0 {
		t.Errorf("%+v has %q beside %d", p, s.Names(), e)
	}
	for _, g := range asked {
		for _, who := range asked {
			if s.Has(g, who) != slices.Contains(got.sets[g], who) {
				t.Errorf("Has(%q, %q) of %+v: %t", g, who, p, s.Has(g, who))
			}
		}
		if !slices.Equal(s.Members(g), got.sets[g]) {
			t.Errorf("Members(%q) of %+v: %q", g, p, s.Members(g))
		}
	}
	return got
}

func isAsTheModel(t *testing.T, p pol.Policy, known ...string) {
	t.Helper()
	if got, want := resolved(t, p, known...), model(p, known...); fmt.Sprint(got) != fmt.Sprint(want) {
		t.Errorf("Resolve of %+v for %q: %v, not %v", p, known, got, want)
	}
}

type dice struct{ *rand.Rand }

func newDice(seed int64) dice { return dice{rand.New(rand.NewSource(seed))} }

func (d dice) some(n int, l ...string) []string {
	var some []string
	for range n {
		some = append(some, l[d.Intn(len(l))])
	}
	return some
}

var people = []string{"ann", "bob", "eve", "h1", "h2", "web", "z"}

// policy's groups have members that are people, or groups: mostly such as stand behind them in the order of names, so that few are within themselves.
func (d dice) policy(groups int) pol.Policy {
	var p pol.Policy
	names := []string(nil)
	for i := range groups {
		names = append(names, "g"+string([]byte{'a' + byte(i)}))
	}
	round := d.Intn(4) == 0
	for i, name := range names {
		may := append(slices.Clone(people), names[i+1:]...)
		may = append(may, names[i+1:]...)
		if round && d.Intn(6) == 0 {
			may = append(may, names...)
		}
		p.Groups = append(p.Groups, pol.Group{Name: name, Members: d.some(1+d.Intn(5), may...)})
	}
	d.Shuffle(groups, func(i, j int) { p.Groups[i], p.Groups[j] = p.Groups[j], p.Groups[i] })
	for range d.Intn(3) {
		u := pol.Rule{Act: 1, Proto: -1}
		for _, name := range d.some(d.Intn(3), append(names, people...)...) {
			u.From = append(u.From, pol.Lit{Not: d.Intn(2) == 0, Name: name})
		}
		for _, name := range d.some(d.Intn(3), append(names, people...)...) {
			u.To = append(u.To, pol.Lit{Not: d.Intn(2) == 0, Name: name})
		}
		p.Rules = append(p.Rules, u)
	}
	return p
}

func TestResolveByChance(t *testing.T) {
	d := newDice(1)
	seen := map[api.Errno]int{}
	for range 6000 {
		p, known := d.policy(d.Intn(17)), slices.Clone(people)
		if d.Intn(4) == 0 {
			known = known[d.Intn(2):]
		}
		if d.Intn(8) == 0 {
			known = append(known, d.some(2, "ga", "gb", "gc", "gp", "", "Not a name", "any")...)
		}
		if len(p.Groups) > 0 && d.Intn(50) == 0 {
			p.Groups[0].Name = d.some(1, "Z", "gb", "any", "ann")[0]
		}
		d.Shuffle(len(known), func(i, j int) { known[i], known[j] = known[j], known[i] })
		isAsTheModel(t, p, known...)
		seen[model(p, known...).e]++
	}
	for _, e := range []api.Errno{api.OK, api.ErrArg, api.ErrThere, api.ErrName, api.ErrCycle} {
		if seen[e] < 30 {
			t.Error("too few answers are", e, seen)
		}
	}
}

// P14.3.
func TestOrderPlaysNoPart(t *testing.T) {
	d := newDice(2)
	for range 1000 {
		p := d.policy(1 + d.Intn(16))
		was := resolved(t, p, people...)
		d.Shuffle(len(p.Groups), func(i, j int) { p.Groups[i], p.Groups[j] = p.Groups[j], p.Groups[i] })
		for _, g := range p.Groups {
			d.Shuffle(len(g.Members), func(i, j int) { g.Members[i], g.Members[j] = g.Members[j], g.Members[i] })
		}
		known := append(slices.Clone(people), d.some(5, people...)...)
		slices.Reverse(known)
		is := resolved(t, p, known...)
		if is.e != was.e || fmt.Sprint(is.sets) != fmt.Sprint(was.sets) {
			t.Errorf("%+v: %v, %v", p, was, is)
		}
	}
}

// P14.4.
func TestWhatMembersHave(t *testing.T) {
	d := newDice(3)
	for range 1000 {
		p := d.policy(1 + d.Intn(16))
		s, _, e := group.Resolve(p, people...)
		if e != api.OK {
			continue
		}
		for _, g := range p.Groups {
			for _, m := range g.Members {
				for _, who := range s.Members(m) {
					if !s.Has(g.Name, who) {
						t.Errorf("%+v: %s has no %s", p, g.Name, who)
					}
				}
			}
		}
	}
}
