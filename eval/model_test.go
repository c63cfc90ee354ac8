package eval_test

import (
	"math/rand"
	"reflect"
	"slices"
	"testing"

	"ostiary/api"
	"ostiary/audit"
	"ostiary/eval"
	"ostiary/group"
	"ostiary/pol"
)

// alike holds two against one another without Same, which is tested itself.
func alike(a, b eval.Verdict) bool {
	a.Via, b.Via = append([]int(nil), a.Via...), append([]int(nil), b.Via...)
	return reflect.DeepEqual(a, b)
}

var (
	users = []string{"ann", "bob", "eve"}
	hosts = []string{"h1", "h2", "h3"}
	known = slices.Concat(users, hosts)
)

// nobodies are names that no user and no machine of these has.
var nobodies = []string{"", "zoe", "an", "annn", "ANN", "any", "ga", "gb"}

// inGroup is what a group has, as layer 14 tells it; of groups that are not within themselves.
func inGroup(p pol.Policy, name, who string) bool {
	for _, g := range p.Groups {
		if g.Name != name {
			continue
		}
		for _, m := range g.Members {
			if m == who && slices.Contains(known, m) || inGroup(p, m, who) {
				return true
			}
		}
	}
	return false
}

// modelNames are all names, out of some, that somebody has.
func modelNames(p pol.Policy, who audit.Who, l []string) []string {
	var out []string
	for _, name := range l {
		for _, part := range []string{who.User, who.Host} {
			if name == part || inGroup(p, name, part) {
				out = append(out, name)
			}
		}
	}
	return out
}

func modelFits(p pol.Policy, who audit.Who, l []pol.Lit) bool {
	n := 0
	for _, x := range l {
		if slices.Contains(modelNames(p, who, []string{x.Name}), x.Name) != x.Not {
			n++
		}
	}
	return n == len(l)
}

// model is Decide, as the chapter tells it: from the last rule on, so that the first one that fits counts.
func model(p pol.Policy, a eval.Ask) eval.Verdict {
	v := eval.Verdict{Act: 2, Rule: -1}
	for i := len(p.Rules) - 1; i >= 0; i-- {
		u := p.Rules[i]
		if u.Proto != -1 && u.Proto != a.Proto {
			continue
		}
		if u.Ports && (a.Port < u.Lo || a.Port > u.Hi) {
			continue
		}
		if modelFits(p, a.From, u.From) && modelFits(p, a.To, u.To) {
			v = eval.Verdict{Act: u.Act, Rule: i, Via: u.Via}
		}
	}
	return v
}

type dice struct{ *rand.Rand }

func newDice(seed int64) dice { return dice{rand.New(rand.NewSource(seed))} }

func (d dice) one(l ...string) string { return l[d.Intn(len(l))] }

func (d dice) number(l ...int) int { return l[d.Intn(len(l))] }

func (d dice) lits(names []string) []pol.Lit {
	var l []pol.Lit
	for range d.number(0, 1, 1, 1, 2, 2, 3, 4) {
		l = append(l, pol.Lit{Not: d.Intn(3) == 0, Name: d.one(names...)})
	}
	return l
}

func (d dice) rule(names []string) pol.Rule {
	u := pol.Rule{Act: 1 + d.Intn(4), From: d.lits(names), To: d.lits(names), Proto: d.number(-1, -1, 0, 1, 6, 17, 255)}
	if u.Act == pol.Via {
		for range 1 + d.Intn(4) {
			u.Via = append(u.Via, 1+d.Intn(8))
		}
	}
	if d.Intn(2) == 0 {
		u.Proto, u.Ports = d.number(6, 17), true
		u.Lo = d.number(0, 1, 79, 80, 81, 65535)
		u.Hi = max(u.Lo, d.number(0, 80, 81, 443, 65535))
	}
	return u
}

// policy's groups have members that are people, or groups that stand behind them.
func (d dice) policy(rules int) pol.Policy {
	var p pol.Policy
	names := slices.Clone(known)
	for _, name := range []string{"gd", "gc", "gb", "ga"} {
		g := pol.Group{Name: name}
		for range 1 + d.Intn(3) {
			g.Members = append(g.Members, d.one(names...))
		}
		p.Groups = append(p.Groups, g)
		names = append(names, name)
	}
	for range rules {
		p.Rules = append(p.Rules, d.rule(names))
	}
	return p
}

func (d dice) who() audit.Who {
	w := audit.Who{User: d.one(users...), Host: d.one(hosts...)}
	switch d.Intn(8) {
	case 0:
		w.User = d.one(nobodies...)
	case 1:
		w.Host = d.one(nobodies...)
	case 2:
		w.User, w.Host = w.Host, w.User // who is what plays no part
	}
	return w
}

func (d dice) ask() eval.Ask {
	return eval.Ask{From: d.who(), To: d.who(), Proto: d.number(-2, -1, 0, 1, 6, 6, 17, 17, 255, 256), Port: d.number(-1, 0, 1, 78, 79, 80, 80, 81, 82, 443, 444, 65535, 65536)}
}

func sets(t *testing.T, p pol.Policy) group.Sets {
	t.Helper()
	s, name, e := group.Resolve(p, known...)
	if e != api.OK {
		t.Fatalf("Resolve of %+v: %q, %d", p, name, e)
	}
	return s
}

func TestDecideByChance(t *testing.T) {
	d := newDice(1)
	acts := map[int]int{}
	for range 3000 {
		p := d.policy(d.Intn(12))
		s := sets(t, p)
		for range 60 {
			a := d.ask()
			got, want := eval.Decide(p, s, a), model(p, a)
			if !alike(got, want) {
				t.Fatalf("%+v of %+v: %+v, not %+v", a, p, got, want)
			}
			if got.Rule >= 0 {
				acts[got.Act]++
			} else {
				acts[0]++
			}
		}
	}
	for act := range 5 {
		if acts[act] < 1000 {
			t.Error("too few verdicts are", act, acts)
		}
	}
}

func TestFitsByChance(t *testing.T) {
	d := newDice(2)
	yes := 0
	for range 2000 {
		p := d.policy(0)
		s := sets(t, p)
		for range 60 {
			who, l := d.who(), d.lits(append([]string{"ga", "gb", "gc", "gd", "zoe", "", "none"}, known...))
			if got := eval.Fits(s, who, l...); got != modelFits(p, who, l) {
				t.Fatalf("%+v, %+v of %+v: %t", who, l, p, got)
			} else if got {
				yes++
			}
		}
	}
	if yes < 20000 || yes > 100000 {
		t.Error(yes)
	}
}

// P15.3.

func TestTheFirstRuleCounts(t *testing.T) {
	d := newDice(3)
	n := 0
	for range 40000 {
		p, a := d.policy(4), d.ask()
		s := sets(t, p)
		u := p.Rules[0]
		if fits := eval.Decide(pol.Policy{Groups: p.Groups, Rules: []pol.Rule{u}}, s, a).Rule == 0; !fits {
			continue
		}
		n++
		if got := eval.Decide(p, s, a); !alike(got, eval.Verdict{Act: u.Act, Rule: 0, Via: u.Via}) {
			t.Fatalf("%+v of %+v: %+v", a, p, got)
		}
	}
	if n < 1000 {
		t.Error(n)
	}
}

func TestRulesThatFitNobodyMayBeLeftOut(t *testing.T) {
	d := newDice(4)
	for range 5000 {
		p, a := d.policy(d.Intn(8)), d.ask()
		s := sets(t, p)
		want, at := eval.Decide(p, s, a), d.Intn(len(p.Rules)+1)
		u := d.rule(known)
		name := d.one(known...)
		never := []pol.Lit{{Name: name}, {Name: name, Not: true}}
		if d.Intn(2) == 0 {
			u.From = never
		} else {
			u.To = never
		}
		p.Rules = slices.Insert(p.Rules, at, u)
		got := eval.Decide(p, s, a)
		if got.Rule >= at {
			got.Rule--
			if got.Rule < at {
				t.Fatalf("%+v of %+v: by the rule that fits nobody", a, p)
			}
		}
		if !alike(got, want) {
			t.Fatalf("%+v of %+v: %+v, not %+v", a, p, got, want)
		}
	}
}
