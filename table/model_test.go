package table_test

import (
	"fmt"
	"math/rand"
	"reflect"
	"slices"
	"testing"

	"ostiary/api"
	"ostiary/audit"
	"ostiary/eval"
	"ostiary/group"
	"ostiary/pol"
	"ostiary/table"
)

// alike holds two against one another without eval's Same.
func alike(a, b eval.Verdict) bool {
	a.Via, b.Via = append([]int(nil), a.Via...), append([]int(nil), b.Via...)
	return reflect.DeepEqual(a, b)
}

func alikeRows(a, b []table.Row) bool {
	return slices.EqualFunc(a, b, func(r, o table.Row) bool {
		same := alike(r.Verdict, o.Verdict)
		r.Verdict, o.Verdict = eval.Verdict{}, eval.Verdict{}
		return same && reflect.DeepEqual(r, o)
	})
}

// inGroup is what a group has, as layer 14 tells it; of groups that are not within themselves.
func inGroup(p pol.Policy, name, who string) bool {
	for _, g := range p.Groups {
		for _, m := range g.Members {
			if g.Name == name && (m == who || inGroup(p, m, who)) {
				return true
			}
		}
	}
	return false
}

// two are a pair's sets: the numbers of those who are in them.
type two struct{ users, hosts []int }

func (w two) empty() bool { return len(w.users) == 0 || len(w.hosts) == 0 }

// picked are the numbers, out of some, of those who have a name, or of those who don't.
func picked(p pol.Policy, l []string, from []int, name string, have bool) []int {
	var out []int
	for _, i := range from {
		if (l[i] == name || inGroup(p, name, l[i])) == have {
			out = append(out, i)
		}
	}
	return out
}

// modelPairs are the rows of literals, as the chapter tells them: literal by literal, of each pair so far.
func modelPairs(p pol.Policy, l []pol.Lit, users, hosts []string) []two {
	var w two
	for i := range users {
		w.users = append(w.users, i)
	}
	for i := range hosts {
		w.hosts = append(w.hosts, i)
	}
	all := []two{w}
	for _, x := range l {
		var next []two
		for _, w := range all {
			without := picked(p, users, w.users, x.Name, false)
			if x.Not {
				next = append(next, two{without, picked(p, hosts, w.hosts, x.Name, false)})
				continue
			}
			next = append(next, two{picked(p, users, w.users, x.Name, true), w.hosts})
			next = append(next, two{without, picked(p, hosts, w.hosts, x.Name, true)})
		}
		all = next
	}
	return slices.DeleteFunc(all, two.empty)
}

func bitsOf(l []int) uint32 {
	var n uint32
	for _, i := range l {
		n += uint32([]int{1, 2, 4, 8, 16, 32, 64, 128, 256, 512, 1024, 2048, 4096, 8192, 16384, 32768}[i])
	}
	return n
}

// modelCovers: is there no bit, protocol or port of the second one that the first one has not?
func modelCovers(r, o table.Row) bool {
	for i := range 32 {
		for _, sets := range [][2]uint32{{r.FromUsers, o.FromUsers}, {r.FromHosts, o.FromHosts}, {r.ToUsers, o.ToUsers}, {r.ToHosts, o.ToHosts}} {
			if sets[1]>>i%2 == 1 && sets[0]>>i%2 == 0 {
				return false
			}
		}
	}
	if r.Proto != o.Proto && r.Proto != -1 || r.Ports && !o.Ports {
		return false
	}
	return !r.Ports || o.Lo >= r.Lo && o.Hi <= r.Hi
}

// allRows are those that Compile looks at, with those that are covered.
func allRows(p pol.Policy, users, hosts []string) []table.Row {
	var l []table.Row
	for i, u := range p.Rules {
		for _, from := range modelPairs(p, u.From, users, hosts) {
			for _, to := range modelPairs(p, u.To, users, hosts) {
				l = append(l, table.Row{
					FromUsers: bitsOf(from.users), FromHosts: bitsOf(from.hosts), ToUsers: bitsOf(to.users), ToHosts: bitsOf(to.hosts),
					Proto: u.Proto, Ports: u.Ports, Lo: u.Lo, Hi: u.Hi, Verdict: eval.Verdict{Act: u.Act, Rule: i, Via: u.Via},
				})
			}
		}
	}
	return l
}

func modelRows(p pol.Policy, users, hosts []string) []table.Row {
	var l []table.Row
	for _, r := range allRows(p, users, hosts) {
		if !slices.ContainsFunc(l, func(o table.Row) bool { return modelCovers(o, r) }) {
			l = append(l, r)
		}
	}
	return l
}

type dice struct{ *rand.Rand }

func newDice(seed int64) dice { return dice{rand.New(rand.NewSource(seed))} }

func (d dice) one(l ...string) string { return l[d.Intn(len(l))] }

func (d dice) number(l ...int) int { return l[d.Intn(len(l))] }

func (d dice) lits(names []string) []pol.Lit {
	var l []pol.Lit
	for range d.number(0, 1, 1, 1, 2, 2, 3, 4) {
		l = append(l, pol.Lit{Not: d.Intn(3) == 0, Name: d.one(names...)})
	}
	return l
}

func (d dice) rule(names []string) pol.Rule {
	u := pol.Rule{Act: 1 + d.Intn(4), From: d.lits(names), To: d.lits(names), Proto: d.number(-1, -1, 0, 1, 6, 17, 255)}
	if u.Act == pol.Via {
		for range 1 + d.Intn(4) {
			u.Via = append(u.Via, 1+d.Intn(8))
		}
	}
	if d.Intn(2) == 0 {
		u.Proto, u.Ports = d.number(6, 17), true
		u.Lo = d.number(0, 1, 79, 80, 81, 65535)
		u.Hi = max(u.Lo, d.number(0, 80, 81, 443, 65535))
	}
	return u
}

// policy's groups have members that are people, or groups that stand behind them.
func (d dice) policy(groups, rules int, people []string) pol.Policy {
	var p pol.Policy
	names := slices.Clone(people)
	for i := range groups {
		g := pol.Group{Name: "g" + string([]byte{'a' + byte(i)})}
		for range 1 + d.Intn(6) {
			g.Members = append(g.Members, d.one(names...))
		}
		p.Groups = append(p.Groups, g)
		names = append(names, g.Name, g.Name)
	}
	for i := range rules {
		u := d.rule(names)
		if i > 0 && d.Intn(3) == 0 {
			u = d.narrowed(p.Rules[d.Intn(i)], names)
		}
		p.Rules = append(p.Rules, u)
	}
	return p
}

// narrowed is a rule that fits no more than another one, mostly: else few would be covered.
func (d dice) narrowed(u pol.Rule, names []string) pol.Rule {
	u.Act, u.Via = pol.Deny, nil
	u.From, u.To = slices.Clone(u.From), slices.Clone(u.To)
	switch lit := (pol.Lit{Not: d.Intn(2) == 0, Name: d.one(names...)}); {
	case d.Intn(2) == 0 && len(u.From) < 4:
		u.From = append(u.From, lit)
	case d.Intn(2) == 0 && len(u.To) < 4:
		u.To = append(u.To, lit)
	case u.Ports:
		u.Lo = min(max(u.Lo+d.Intn(3)-1, 0), 65535)
		u.Hi = min(max(u.Hi+d.Intn(3)-1, u.Lo), 65535)
	case u.Proto == -1:
		u.Proto = d.number(0, 6, 17)
	}
	return u
}

// people are so many, in any order: names that rise, or fall, would be in that of their numbers.
func (d dice) people(users, hosts int) ([]string, []string) {
	var l, m []string
	for _, i := range d.Perm(16)[:users] {
		l = append(l, "u"+string([]byte{'a' + byte(i)}))
	}
	for _, i := range d.Perm(16)[:hosts] {
		m = append(m, "h"+string([]byte{'a' + byte(i)}))
	}
	return l, m
}

// thrown is a policy by chance, with people for whom it is, and its table.
type thrown struct {
	p            pol.Policy
	s            group.Sets
	users, hosts []string
	t            *table.Table
}

func (d dice) thrown(t *testing.T, users, hosts, groups, rules int) thrown {
	t.Helper()
	var x thrown
	x.users, x.hosts = d.people(users, hosts)
	x.p = d.policy(groups, rules, append(slices.Concat(x.users, x.hosts), "nobody"))
	s, name, e := group.Resolve(x.p, append(slices.Concat(x.users, x.hosts), "nobody")...)
	if e != api.OK {
		t.Fatalf("Resolve of %+v: %q, %d", x.p, name, e)
	}
	x.s = s
	if x.t, e = table.Compile(x.p, s, x.users, x.hosts); x.t == nil || e != api.OK {
		t.Fatalf("Compile of %+v: %v, %d", x.p, x.t, e)
	}
	return x
}

func (d dice) ask(x thrown) eval.Ask {
	who := func() audit.Who { return audit.Who{User: d.one(x.users...), Host: d.one(x.hosts...)} }
	return eval.Ask{From: who(), To: who(), Proto: d.number(-2, -1, 0, 1, 6, 6, 17, 17, 255, 256), Port: d.number(-1, 0, 1, 78, 79, 80, 80, 81, 82, 443, 444, 65535, 65536)}
}

func TestRowsByChance(t *testing.T) {
	d := newDice(1)
	rows, covered := 0, 0
	for range 3000 {
		x := d.thrown(t, d.number(0, 1, 2, 3, 4, 5, 6), d.number(0, 1, 2, 3, 4, 5, 6), d.Intn(5), d.Intn(12))
		got, want := x.t.Rows(), modelRows(x.p, x.users, x.hosts)
		if !alikeRows(got, want) {
			t.Fatalf("%+v for %q, %q: %+v, not %+v", x.p, x.users, x.hosts, got, want)
		}
		rows += len(got)
		covered += len(allRows(x.p, x.users, x.hosts)) - len(got)
	}
	if rows < 4000 || covered < 1000 {
		t.Error(rows, covered)
	}
}

func TestRowsOfTheMostByChance(t *testing.T) {
	d := newDice(2)
	for range 40 {
		x := d.thrown(t, 16, 16, 16, 64)
		if got, want := x.t.Rows(), modelRows(x.p, x.users, x.hosts); !alikeRows(got, want) {
			t.Fatalf("%+v for %q, %q: %+v, not %+v", x.p, x.users, x.hosts, got, want)
		}
	}
}

// P16.3.

func TestItSaysWhatThePolicySays(t *testing.T) {
	d := newDice(3)
	acts := map[int]int{}
	for range 3000 {
		x := d.thrown(t, 1+d.Intn(16), 1+d.Intn(16), d.Intn(17), d.Intn(12))
		for range 60 {
			a := d.ask(x)
			got, want := x.t.Lookup(a), eval.Decide(x.p, x.s, a)
			if !alike(got, want) {
				t.Fatalf("%+v of %+v: %+v, not %+v", a, x.p, got, want)
			}
			if got.Rule >= 0 {
				acts[got.Act]++
			} else {
				acts[0]++
			}
		}
	}
	for act := range 5 {
		if acts[act] < 1000 {
			t.Error("too few verdicts are", act, acts)
		}
	}
}

// Of a few people, all that can be asked.
func TestItSaysWhatThePolicySaysOfAll(t *testing.T) {
	d := newDice(4)
	for range 60 {
		x := d.thrown(t, 3, 3, 3, 6)
		var all []audit.Who
		for _, user := range x.users {
			for _, host := range x.hosts {
				all = append(all, audit.Who{User: user, Host: host})
			}
		}
		for _, from := range all {
			for _, to := range all {
				for _, proto := range []int{-1, 0, 1, 2, 6, 17, 255} {
					for _, port := range []int{-1, 0, 1, 2, 78, 79, 80, 81, 82, 442, 443, 444, 65534, 65535, 65536} {
						a := eval.Ask{From: from, To: to, Proto: proto, Port: port}
						if got, want := x.t.Lookup(a), eval.Decide(x.p, x.s, a); !alike(got, want) {
							t.Fatalf("%+v of %+v: %+v, not %+v", a, x.p, got, want)
						}
					}
				}
			}
		}
	}
}

// P16.4.

func TestNoRowIsForNobodyOrCovered(t *testing.T) {
	d := newDice(5)
	for range 2000 {
		x := d.thrown(t, d.Intn(5), d.Intn(5), d.Intn(4), d.Intn(10))
		l := x.t.Rows()
		for i, r := range l {
			if r.FromUsers == 0 || r.FromHosts == 0 || r.ToUsers == 0 || r.ToHosts == 0 {
				t.Fatalf("%+v of %+v is for nobody", r, x.p)
			}
			if i > 0 && l[i-1].Verdict.Rule > r.Verdict.Rule {
				t.Fatalf("%+v of %+v stands ahead of %+v", l[i-1], x.p, r)
			}
			for _, o := range l[:i] {
				if o.Covers(r) || modelCovers(o, r) {
					t.Fatalf("%+v of %+v covers %+v", o, x.p, r)
				}
			}
		}
		for _, r := range allRows(x.p, x.users, x.hosts) {
			if !slices.ContainsFunc(l, func(o table.Row) bool { return o.Verdict.Rule <= r.Verdict.Rule && modelCovers(o, r) }) {
				t.Fatalf("%+v of %+v is not there", r, x.p)
			}
		}
	}
}

// P16.5.

func TestWhoIsNotKnownByChance(t *testing.T) {
	d := newDice(6)
	for range 2000 {
		x := d.thrown(t, d.Intn(16), d.Intn(16), d.Intn(5), 1+d.Intn(6))
		strange := slices.Concat(x.hosts, []string{"", "nobody", "ga", "any", "u", "h", "uaa"}) // a machine is no user
		odd := slices.Concat(x.users, []string{"", "nobody", "ga", "any", "u", "h", "haa"})     // and a user no machine
		a := d.ask(thrown{users: append(x.users, "zoe"), hosts: append(x.hosts, "h9")})
		switch d.Intn(4) {
		case 0:
			a.From.User = d.one(strange...)
		case 1:
			a.From.Host = d.one(odd...)
		case 2:
			a.To.User = d.one(strange...)
		default:
			a.To.Host = d.one(odd...)
		}
		if got := x.t.Lookup(a); !alike(got, eval.Verdict{Act: pol.Deny, Rule: -1}) {
			t.Fatalf("%+v of %+v for %q, %q: %+v", a, x.p, x.users, x.hosts, got)
		}
	}
}

// P16.1: Covers.

func (d dice) set(bits int) uint32 { return 1 + uint32(d.Intn(1<<bits-1)) }

func (d dice) row() table.Row {
	r := table.Row{FromUsers: d.set(2), FromHosts: d.set(2), ToUsers: d.set(1), ToHosts: d.set(2), Proto: d.Intn(4) - 1, Ports: d.Intn(2) == 0}
	if r.Ports {
		r.Lo = d.Intn(3)
		r.Hi = r.Lo + d.Intn(3-r.Lo)
	}
	r.Verdict = eval.Verdict{Act: d.Intn(5), Rule: d.Intn(3)}
	return r
}

// isFor are all that a row is for, out of few people, protocols and ports, some of which no row has as its own.
func isFor(r table.Row) map[string]bool {
	all := map[string]bool{}
	for who := range 256 {
		from, to := who&15, who>>4
		if r.FromUsers>>(from&3)&1 == 0 || r.FromHosts>>(from>>2)&1 == 0 || r.ToUsers>>(to&3)&1 == 0 || r.ToHosts>>(to>>2)&1 == 0 {
			continue
		}
		for proto := range 4 {
			for port := -1; port < 4; port++ {
				if (r.Proto == -1 || r.Proto == proto) && (!r.Ports || r.Lo <= port && port <= r.Hi) {
					all[fmt.Sprint(who, proto, port)] = true
				}
			}
		}
	}
	return all
}

func TestCoversByChance(t *testing.T) {
	d := newDice(7)
	yes := 0
	for range 6000 {
		r, o := d.row(), d.row()
		if d.Intn(2) == 0 { // else few are covered
			r.FromUsers |= o.FromUsers
			r.FromHosts |= o.FromHosts
			r.ToUsers |= o.ToUsers
			r.ToHosts |= o.ToHosts
		}
		want, has := true, isFor(r)
		for q := range isFor(o) {
			want = want && has[q]
		}
		if got := r.Covers(o); got != want {
			t.Fatalf("%+v, %+v: %t", r, o, got)
		} else if got {
			yes++
		}
	}
	if yes < 300 {
		t.Error(yes)
	}
}
