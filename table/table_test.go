package table_test

import (
	"math"
	"slices"
	"strings"
	"testing"
	"unsafe"

	"ostiary/api"
	"ostiary/audit"
	"ostiary/eval"
	"ostiary/group"
	"ostiary/pol"
	"ostiary/table"
)

func list(s string) []string { return strings.Fields(s) }

func policy(t *testing.T, s string) pol.Policy {
	t.Helper()
	p, at, e := pol.Parse(s)
	if e != api.OK {
		t.Fatalf("Parse of %q: %d, %d", s, at, e)
	}
	return p
}

// compiled is a text's table for these users and machines.
func compiled(t *testing.T, text, users, hosts string) *table.Table {
	t.Helper()
	p := policy(t, text)
	s, name, e := group.Resolve(p, append(list(users), list(hosts)...)...)
	if e != api.OK {
		t.Fatalf("Resolve of %q: %q, %d", text, name, e)
	}
	return compile(t, p, s, list(users), list(hosts))
}

func compile(t *testing.T, p pol.Policy, s group.Sets, users, hosts []string) *table.Table {
	t.Helper()
	c, e := table.Compile(p, s, users, hosts)
	if c == nil || e != api.OK {
		t.Fatalf("Compile of %+v for %q, %q: %v, %d", p, users, hosts, c, e)
	}
	return c
}

func refuses(t *testing.T, p pol.Policy, s group.Sets, users, hosts []string, want api.Errno) {
	t.Helper()
	if c, e := table.Compile(p, s, users, hosts); c != nil || e != want {
		t.Errorf("Compile of %+v for %q, %q: %v, %d, not %d", p, users, hosts, c, e, want)
	}
}

// bitsOfRows are the four sets of each row, by Rule.
func bitsOfRows(c *table.Table) map[int][][4]uint32 {
	all := map[int][][4]uint32{}
	for _, r := range c.Rows() {
		all[r.Verdict.Rule] = append(all[r.Verdict.Rule], [4]uint32{r.FromUsers, r.FromHosts, r.ToUsers, r.ToHosts})
	}
	return all
}

// has fails unless rule 0 of a text has just these sets, for users ann, bob, eve (1, 2, 4) and machines h1, h2, h3 (1, 2, 4).
func has(t *testing.T, text string, want ...[4]uint32) {
	t.Helper()
	if got := bitsOfRows(compiled(t, text, "ann bob eve", "h1 h2 h3"))[0]; !slices.Equal(got, want) {
		t.Errorf("%q: %v, not %v", text, got, want)
	}
}

func ask(from, to audit.Who, proto, port int) eval.Ask {
	return eval.Ask{From: from, To: to, Proto: proto, Port: port}
}

func who(user, host string) audit.Who { return audit.Who{User: user, Host: host} }

func looks(t *testing.T, c *table.Table, a eval.Ask, want eval.Verdict) {
	t.Helper()
	if got := c.Lookup(a); !alike(got, want) {
		t.Errorf("%+v: %+v, not %+v", a, got, want)
	}
}

func said(act, rule int, via ...int) eval.Verdict {
	return eval.Verdict{Act: act, Rule: rule, Via: via}
}

var none = said(pol.Deny, -1)

func TestExample(t *testing.T) {
	c := compiled(t, "allow: ann -> any;", "ann bob", "h1")
	want := []table.Row{{FromUsers: 1, FromHosts: 1, ToUsers: 3, ToHosts: 1, Proto: pol.AnyProto, Verdict: said(pol.Allow, 0)}}
	if got := c.Rows(); !alikeRows(got, want) {
		t.Errorf("%+v", got)
	}
	looks(t, c, ask(who("ann", "h1"), who("bob", "h1"), 6, 80), said(pol.Allow, 0))
	looks(t, c, ask(who("bob", "h1"), who("ann", "h1"), 6, 80), none)
}

// P16.1: rows of literals.

func TestRowsOfLiterals(t *testing.T) {
	const all = 7
	has(t, "allow: any -> any;", [4]uint32{7, 7, 7, 7})
	has(t, "allow: ann -> any;", [4]uint32{1, 7, all, all})
	has(t, "allow: eve -> any;", [4]uint32{4, 7, all, all})
	has(t, "allow: any -> bob;", [4]uint32{all, all, 2, 7})
	has(t, "allow: h2 -> any;", [4]uint32{7, 2, all, all})
	has(t, "allow: any -> h3;", [4]uint32{all, all, 7, 4})
	has(t, "allow: !ann -> any;", [4]uint32{6, 7, all, all})
	has(t, "allow: any -> !h1;", [4]uint32{all, all, 7, 6})
	has(t, "allow: ann & bob -> any;")
	has(t, "allow: ann & h1 -> any;", [4]uint32{1, 1, all, all})
	has(t, "allow: h1 & ann -> any;", [4]uint32{1, 1, all, all})
	has(t, "allow: ann & !h1 -> any;", [4]uint32{1, 6, all, all})
	has(t, "allow: !h1 & !bob -> any;", [4]uint32{5, 6, all, all})
	has(t, "allow: ann & !ann -> any;")
	has(t, "allow: !ann & ann -> any;")
	has(t, "allow: !ann & !bob & !eve -> any;")
	has(t, "allow: !h1 & !h2 & !h3 -> any;")
	has(t, "allow: any -> ann & !ann;")
	has(t, "allow: h1 & h2 -> any;")
	has(t, "allow: ann & ann -> !h2 & !h2;", [4]uint32{1, 7, 7, 5})
}

func TestRowsOfGroups(t *testing.T) {
	const all = 7
	has(t, "group g = ann, h2; allow: g -> any;", [4]uint32{1, 7, all, all}, [4]uint32{6, 2, all, all})
	has(t, "group g = ann, h2; allow: any -> g;", [4]uint32{all, all, 1, 7}, [4]uint32{all, all, 6, 2})
	has(t, "group g = ann, h2; allow: !g -> any;", [4]uint32{6, 5, all, all})
	has(t, "group g = ann, h2; group k = g, eve; allow: k -> any;", [4]uint32{5, 7, all, all}, [4]uint32{2, 2, all, all})
	has(t, "group g = ann, bob, eve, h1; allow: g -> any;", [4]uint32{7, 7, all, all})
	has(t, "group g = ann, bob, eve, h1; allow: !g -> any;")
	has(t, "group g = h1, h2, h3; allow: g -> any;", [4]uint32{7, 7, all, all})
	// each pair of From, and of each, each of To
	has(t, "group g = ann, h2; group k = bob, eve, h3; allow: g -> k;",
		[4]uint32{1, 7, 6, 7}, [4]uint32{1, 7, 1, 4}, [4]uint32{6, 2, 6, 7}, [4]uint32{6, 2, 1, 4})
	// literal by literal, of each pair so far
	has(t, "group g = ann, bob, h1; group k = bob, eve, h1, h2; allow: g & k -> any;",
		[4]uint32{2, 7, all, all}, [4]uint32{1, 3, all, all}, [4]uint32{4, 1, all, all})
	has(t, "group g = ann, bob, h1; group k = bob, eve, h1, h2; allow: k & g -> any;",
		[4]uint32{2, 7, all, all}, [4]uint32{4, 1, all, all}, [4]uint32{1, 3, all, all})
	has(t, "group g = ann, bob, h1; group k = bob, eve, h1, h2; allow: g & !k -> any;", [4]uint32{1, 4, all, all})
	has(t, "group g = ann, bob, h1; group k = bob, eve, h1, h2; allow: !k & g -> any;", [4]uint32{1, 4, all, all})
	has(t, "group g = ann, bob, h1; group k = bob, eve, h1, h2; allow: k & !g -> any;", [4]uint32{4, 6, all, all})
}

func TestRowsHaveWhatRulesHave(t *testing.T) {
	got := compiled(t, "via 3, 1: ann -> bob tcp port 80-90; deny: bob -> any udp port 53; outbound: ann -> any ip 47; allow: any -> any tcp;", "ann bob", "h1").Rows()
	want := []table.Row{
		{FromUsers: 1, FromHosts: 1, ToUsers: 2, ToHosts: 1, Proto: 6, Ports: true, Lo: 80, Hi: 90, Verdict: said(pol.Via, 0, 3, 1)},
		{FromUsers: 2, FromHosts: 1, ToUsers: 3, ToHosts: 1, Proto: 17, Ports: true, Lo: 53, Hi: 53, Verdict: said(pol.Deny, 1)},
		{FromUsers: 1, FromHosts: 1, ToUsers: 3, ToHosts: 1, Proto: 47, Verdict: said(pol.Outbound, 2)},
		{FromUsers: 3, FromHosts: 1, ToUsers: 3, ToHosts: 1, Proto: 6, Verdict: said(pol.Allow, 3)},
	}
	if !alikeRows(got, want) {
		t.Errorf("%+v", got)
	}
}

// Numbers are those in which they are handed in, whatever the names.
func TestNumbers(t *testing.T) {
	users, hosts := list("up ub uo uc un ud um ue ul uf uk ug uj uh ui ua"), list("ha hi hh hj hg hk hf hl he hm hd hn hc ho hb hp")
	p := pol.Policy{Rules: []pol.Rule{{}}}
	for i := range 16 {
		p.Rules[0] = pol.Rule{Act: pol.Allow, Proto: -1, From: []pol.Lit{{Name: users[i]}}, To: []pol.Lit{{Name: hosts[i]}}}
		c := compile(t, p, group.Sets{}, users, hosts)
		want := []table.Row{{FromUsers: 1 << i, FromHosts: 65535, ToUsers: 65535, ToHosts: 1 << i, Proto: -1, Verdict: said(pol.Allow, 0)}}
		if got := c.Rows(); !alikeRows(got, want) {
			t.Errorf("%d: %+v", i, got)
		}
		for j := range 16 {
			from, to := want[0].Verdict, want[0].Verdict
			if i != j {
				from, to = none, none
			}
			looks(t, c, ask(who(users[j], hosts[0]), who(users[0], hosts[i]), 1, 0), from)
			looks(t, c, ask(who(users[i], hosts[15]), who(users[15], hosts[j]), 1, 0), to)
		}
	}
}

func TestRowsThatAreCovered(t *testing.T) {
	for text, rules := range map[string][]int{
		"allow: any -> any; deny: any -> any;":                                                                 {0},
		"allow: any -> any; deny: ann -> h1 tcp port 80;":                                                      {0},
		"deny: ann -> h1 tcp port 80; allow: any -> any;":                                                      {0, 1},
		"allow: any -> any tcp; deny: any -> any udp; via 1: any -> any;":                                      {0, 1, 2},
		"allow: any -> any tcp; deny: any -> any ip 6; via 1: any -> any tcp port 1;":                          {0},
		"allow: any -> any tcp port 80; deny: any -> any tcp;":                                                 {0, 1},
		"allow: any -> any tcp port 80-90; deny: any -> any tcp port 80-90;":                                   {0},
		"allow: any -> any tcp port 80-90; deny: any -> any tcp port 81-89;":                                   {0},
		"allow: any -> any tcp port 80-90; deny: any -> any tcp port 79-90;":                                   {0, 1},
		"allow: any -> any tcp port 80-90; deny: any -> any tcp port 80-91;":                                   {0, 1},
		"allow: any -> any tcp port 80-90; deny: any -> any udp port 80-90;":                                   {0, 1},
		"allow: any -> any tcp port 80-85; deny: any -> any tcp port 86-90; via 1: any -> any tcp port 80-90;": {0, 1, 2}, // by two together it is not
		"allow: ann -> any; deny: bob -> any; via 1: any -> any;":                                              {0, 1, 2},
		"allow: ann -> any; deny: ann -> bob; via 1: ann -> !bob;":                                             {0},
		"allow: ann -> bob; deny: ann -> any; via 1: ann -> h1;":                                               {0, 1},
		"allow: h1 -> any; deny: ann & h1 -> any; via 1: ann -> any;":                                          {0, 2},
		"allow: any -> h1; deny: any -> bob & h1; via 1: any -> bob;":                                          {0, 2},
		"deny: ann & bob -> any; allow: any -> any;":                                                           {1},
	} {
		if got := sortedKeys(bitsOfRows(compiled(t, text, "ann bob", "h1 h2"))); !slices.Equal(got, rules) {
			t.Errorf("%q: %v, not %v", text, got, rules)
		}
	}
}

func sortedKeys(m map[int][][4]uint32) []int {
	var l []int
	for k := range m {
		l = append(l, k)
	}
	slices.Sort(l)
	return l
}

// A rule may have one row that is covered, and one that is not.
func TestRowsOfWhichSomeAreCovered(t *testing.T) {
	c := compiled(t, "group g = ann, h2; deny: ann -> any; allow: g -> any; via 1: !ann & h2 -> any;", "ann bob", "h1 h2")
	got := bitsOfRows(c)
	if !slices.Equal(got[0], [][4]uint32{{1, 3, 3, 3}}) || !slices.Equal(got[1], [][4]uint32{{2, 2, 3, 3}}) || len(got[2]) != 0 {
		t.Error(got)
	}
}

func TestOfNobody(t *testing.T) {
	for _, c := range []*table.Table{
		compiled(t, "allow: any -> any;", "", ""),
		compiled(t, "allow: any -> any;", "ann", ""),
		compiled(t, "allow: any -> any;", "", "h1"),
		compiled(t, "", "ann", "h1"),
		compiled(t, "allow: ann -> any;", "ann bob", ""),
	} {
		if l := c.Rows(); len(l) != 0 {
			t.Errorf("%+v", l)
		}
		looks(t, c, ask(who("ann", "h1"), who("ann", "h1"), 6, 80), none)
		looks(t, c, eval.Ask{}, none)
	}
}

// P16.1: errors.

func TestErrArg(t *testing.T) {
	many := make([]string, 17)
	for _, p := range []pol.Policy{
		{Groups: []pol.Group{{}}},
		{Groups: make([]pol.Group, 17)},
		{Rules: []pol.Rule{{}}},
		{Rules: []pol.Rule{{Act: 1, Proto: -1, From: []pol.Lit{{}}}}},
		{Rules: []pol.Rule{{Act: 1, Proto: -1, To: []pol.Lit{{Name: "any"}}}}},
		{Rules: []pol.Rule{{Act: 4, Proto: -1}}},
		{Rules: []pol.Rule{{Act: 1, Proto: 6, Ports: true, Lo: 2, Hi: 1}}},
		{Rules: slices.Repeat([]pol.Rule{{Act: 1, Proto: -1}}, 65)},
	} { // ahead of all other errors
		refuses(t, p, group.Sets{}, nil, nil, api.ErrArg)
		refuses(t, p, group.Sets{}, list("ann"), list("h1"), api.ErrArg)
		refuses(t, p, group.Sets{}, many, nil, api.ErrArg)
		refuses(t, p, group.Sets{}, nil, many, api.ErrArg)
		refuses(t, p, group.Sets{}, list("ann ann"), nil, api.ErrArg)
	}
}

func names(n int, head string) []string {
	var l []string
	for i := range n {
		l = append(l, head+strings.Repeat("x", i))
	}
	return l
}

func TestErrFull(t *testing.T) {
	p := policy(t, "allow: any -> any;")
	for n := range 40 {
		for m := range 40 {
			if n <= 16 && m <= 16 {
				compile(t, p, group.Sets{}, names(n, "u"), names(m, "h"))
			} else {
				refuses(t, p, group.Sets{}, names(n, "u"), names(m, "h"), api.ErrFull)
			}
		}
	}
	same := slices.Repeat([]string{"ann"}, 17) // ahead of ErrThere
	refuses(t, p, group.Sets{}, same, nil, api.ErrFull)
	refuses(t, p, group.Sets{}, nil, same, api.ErrFull)
	refuses(t, p, group.Sets{}, make([]string, 1<<20), make([]string, 1<<20), api.ErrFull)
}

func TestErrThere(t *testing.T) {
	p := policy(t, "allow: any -> any;")
	refuses(t, p, group.Sets{}, list("ann ann"), nil, api.ErrThere)
	refuses(t, p, group.Sets{}, nil, list("h1 h1"), api.ErrThere)
	refuses(t, p, group.Sets{}, list("ann"), list("ann"), api.ErrThere)
	refuses(t, p, group.Sets{}, []string{""}, []string{""}, api.ErrThere)
	for i := range 32 { // wherever they stand
		for j := range i {
			users, hosts := names(16, "u"), names(16, "h")
			at := func(i int) *string {
				if i < 16 {
					return &users[i]
				}
				return &hosts[i-16]
			}
			*at(i) = *at(j)
			refuses(t, p, group.Sets{}, users, hosts, api.ErrThere)
		}
	}
	compile(t, p, group.Sets{}, list("ann Ann an annn"), list("a nna"))
}

// Users and machines may have any names; a policy speaks of none that is no name.
func TestNamesOfAnyKind(t *testing.T) {
	users, hosts := []string{"", "any", "ANN", "\xff", "g", strings.Repeat("a", 1<<20)}, []string{" ", "h1", "group", "ann,", "\x00"}
	p := policy(t, "group g = h1; allow: g -> any; deny: any -> g;")
	s, _, e := group.Resolve(p, "h1")
	if e != api.OK {
		t.Fatal(e)
	}
	c := compile(t, p, s, users, hosts)
	if got := bitsOfRows(c); !slices.Equal(got[0], [][4]uint32{{16, 31, 63, 31}, {47, 2, 63, 31}}) || !slices.Equal(got[1], [][4]uint32{{63, 31, 16, 31}, {63, 31, 47, 2}}) {
		t.Error(got)
	}
	for _, from := range users {
		for _, to := range hosts {
			a := ask(who(from, to), who(users[5], hosts[4]), 1, 1)
			looks(t, c, a, eval.Decide(p, s, a))
			a.From, a.To = a.To, a.From
			looks(t, c, a, eval.Decide(p, s, a))
		}
	}
}

// Whose sets they are is not asked: a policy means by them what they say.
func TestOfOtherSets(t *testing.T) {
	s, _, e := group.Resolve(policy(t, "group g = bob, h1; group k = ann;"), "ann", "bob", "h1")
	if e != api.OK {
		t.Fatal(e)
	}
	p := policy(t, "group g = ann; allow: g -> zoe; deny: k -> g;")
	got := bitsOfRows(compile(t, p, s, list("ann bob zoe"), list("h1 h2")))
	if !slices.Equal(got[0], [][4]uint32{{2, 3, 4, 3}, {5, 1, 4, 3}}) || !slices.Equal(got[1], [][4]uint32{{1, 3, 2, 3}, {1, 3, 5, 1}}) {
		t.Error(got)
	}
	if got := bitsOfRows(compile(t, p, group.Sets{}, list("ann bob zoe"), list("h1 h2"))); len(got) != 0 {
		t.Error(got)
	}
}

// The most rows that a table can have: each of 64 rules has 16 pairs of From, and 16 of To.
func TestTheMostRows(t *testing.T) {
	var users, hosts []string
	p := pol.Policy{Groups: make([]pol.Group, 4)}
	var l []pol.Lit
	for k := range p.Groups {
		p.Groups[k].Name = "g" + string([]byte{'a' + byte(k)})
		l = append(l, pol.Lit{Name: p.Groups[k].Name})
	}
	for i := range 16 {
		users = append(users, "u"+string([]byte{'a' + byte(i)}))
		hosts = append(hosts, "h"+string([]byte{'a' + byte(i)}))
		for k := range p.Groups {
			if i>>k&1 == 1 {
				p.Groups[k].Members = append(p.Groups[k].Members, users[i], hosts[i])
			}
		}
	}
	for i := range 64 {
		p.Rules = append(p.Rules, pol.Rule{Act: pol.Allow, From: l, To: l, Proto: 6, Ports: true, Lo: i, Hi: i})
	}
	s, _, e := group.Resolve(p, append(slices.Clone(users), hosts...)...)
	if e != api.OK {
		t.Fatal(e)
	}
	c := compile(t, p, s, users, hosts)
	if n := len(c.Rows()); n != 64*16*16 {
		t.Error(n)
	}
	looks(t, c, ask(who("ua", "hp"), who("up", "ha"), 6, 63), said(pol.Allow, 63))
	looks(t, c, ask(who("ua", "hp"), who("uo", "ha"), 6, 63), none)
	looks(t, c, ask(who("ub", "ho"), who("uc", "hn"), 6, 0), said(pol.Allow, 0))
	looks(t, c, ask(who("ub", "ho"), who("uc", "hm"), 6, 0), none)
}

// P16.1: Covers.

func TestCovers(t *testing.T) {
	base := table.Row{FromUsers: 6, FromHosts: 6, ToUsers: 6, ToHosts: 6, Proto: 6, Ports: true, Lo: 80, Hi: 90, Verdict: said(pol.Via, 3, 1)}
	for _, c := range []struct {
		change func(*table.Row)
		want   bool
	}{
		{func(r *table.Row) {}, true},
		{func(r *table.Row) { r.Verdict = none }, true},
		{func(r *table.Row) { r.FromUsers = 2 }, true},
		{func(r *table.Row) { r.FromUsers = 7 }, false},
		{func(r *table.Row) { r.FromUsers = 3 }, false},
		{func(r *table.Row) { r.FromUsers |= 1 << 31 }, false},
		{func(r *table.Row) { r.FromUsers = 0 }, true},
		{func(r *table.Row) { r.FromHosts = 4 }, true},
		{func(r *table.Row) { r.FromHosts = 14 }, false},
		{func(r *table.Row) { r.FromHosts = 8 }, false},
		{func(r *table.Row) { r.FromHosts = 0 }, true},
		{func(r *table.Row) { r.ToUsers = 2 }, true},
		{func(r *table.Row) { r.ToUsers = 7 }, false},
		{func(r *table.Row) { r.ToUsers = 1 }, false},
		{func(r *table.Row) { r.ToUsers = 0 }, true},
		{func(r *table.Row) { r.ToHosts = 4 }, true},
		{func(r *table.Row) { r.ToHosts = math.MaxUint32 }, false},
		{func(r *table.Row) { r.ToHosts = 5 }, false},
		{func(r *table.Row) { r.ToHosts = 0 }, true},
		{func(r *table.Row) { r.Proto = 17 }, false},
		{func(r *table.Row) { r.Proto = -1 }, false},
		{func(r *table.Row) { r.Proto = 1<<32 + 6 }, false},
		{func(r *table.Row) { r.Ports, r.Lo, r.Hi = false, 0, 0 }, false},
		{func(r *table.Row) { r.Ports = false }, false},
		{func(r *table.Row) { r.Lo = 79 }, false},
		{func(r *table.Row) { r.Lo = 81 }, true},
		{func(r *table.Row) { r.Lo = 90 }, true},
		{func(r *table.Row) { r.Lo = math.MinInt }, false},
		{func(r *table.Row) { r.Hi = 91 }, false},
		{func(r *table.Row) { r.Hi = 89 }, true},
		{func(r *table.Row) { r.Hi = 80 }, true},
		{func(r *table.Row) { r.Hi = math.MaxInt }, false},
		{func(r *table.Row) { r.Lo, r.Hi = 91, 95 }, false},
		{func(r *table.Row) { r.Lo, r.Hi = 70, 79 }, false},
	} {
		o := base
		c.change(&o)
		if got := base.Covers(o); got != c.want {
			t.Errorf("%+v: %t", o, got)
		}
		wide := base // no ports of its own, and any protocol
		wide.Proto, wide.Ports, wide.Lo, wide.Hi = -1, false, 1000, 1000
		o.FromUsers, o.FromHosts, o.ToUsers, o.ToHosts = 6, 6, 6, 6
		if !wide.Covers(o) {
			t.Errorf("%+v is not covered", o)
		}
	}
	if z := (table.Row{}); !z.Covers(z) || z.Covers(base) {
		t.Error("the zero row")
	}
}

func TestCoversByProtocol(t *testing.T) {
	edges := []int{math.MinInt, -2, -1, 0, 1, 6, 17, 255, 256, 1<<32 - 1, math.MaxInt}
	for _, a := range edges {
		for _, b := range edges {
			if got := (table.Row{Proto: a}).Covers(table.Row{Proto: b}); got != (a == -1 || a == b) {
				t.Errorf("%d, %d: %t", a, b, got)
			}
		}
	}
}

// P16.2.

func TestLookup(t *testing.T) {
	c := compiled(t, "group lab = bob, h2; deny: eve -> any; via 2, 3: ann -> lab tcp port 80-82; outbound: ann -> lab; allow: any -> h1 ip 1;", "ann bob eve", "h1 h2 h3")
	ann, bob := who("ann", "h1"), who("bob", "h3")
	looks(t, c, ask(ann, bob, 6, 79), said(pol.Outbound, 2))
	looks(t, c, ask(ann, bob, 6, 80), said(pol.Via, 1, 2, 3))
	looks(t, c, ask(ann, bob, 6, 82), said(pol.Via, 1, 2, 3))
	looks(t, c, ask(ann, bob, 6, 83), said(pol.Outbound, 2))
	looks(t, c, ask(ann, bob, 17, 80), said(pol.Outbound, 2))
	looks(t, c, ask(ann, bob, -1, 80), said(pol.Outbound, 2))
	looks(t, c, ask(ann, who("ann", "h2"), 6, 81), said(pol.Via, 1, 2, 3))
	looks(t, c, ask(ann, who("ann", "h3"), 6, 81), none)
	looks(t, c, ask(who("eve", "h2"), bob, 6, 80), said(pol.Deny, 0))
	looks(t, c, ask(bob, who("eve", "h1"), 1, 0), said(pol.Allow, 3))
	looks(t, c, ask(bob, who("eve", "h1"), 1, math.MinInt), said(pol.Allow, 3))
	looks(t, c, ask(bob, who("eve", "h1"), 2, 0), none)
	looks(t, c, ask(bob, who("eve", "h2"), 1, 0), none)
	looks(t, c, ask(bob, ann, 1, math.MaxInt), said(pol.Allow, 3))
}

func TestWhoIsNotKnown(t *testing.T) {
	c := compiled(t, "group g = ann; allow: any -> any;", "ann bob", "h1 h2")
	ann, bob := who("ann", "h1"), who("bob", "h2")
	looks(t, c, ask(ann, bob, 6, 80), said(pol.Allow, 0))
	for _, name := range []string{"", "zoe", "an", "annn", "Ann", "any", "g", "\xff", strings.Repeat("a", 1<<20)} {
		for _, odd := range []audit.Who{who(name, "h1"), who("ann", name), who(name, name)} {
			looks(t, c, ask(odd, bob, 6, 80), none)
			looks(t, c, ask(ann, odd, 6, 80), none)
			looks(t, c, ask(odd, odd, 6, 80), none)
		}
	}
	for _, odd := range []audit.Who{who("h1", "ann"), who("ann", "bob"), who("h1", "h1")} { // a machine is no user, a user no machine
		looks(t, c, ask(odd, bob, 6, 80), none)
		looks(t, c, ask(ann, odd, 6, 80), none)
	}
}

func TestOfNilTables(t *testing.T) {
	var c *table.Table
	for _, c := range []*table.Table{c, {}} {
		looks(t, c, eval.Ask{}, none)
		looks(t, c, ask(who("ann", "h1"), who("bob", "h2"), 6, 80), none)
		if l := c.Rows(); len(l) != 0 {
			t.Error(l)
		}
	}
}

// The rules that hold everywhere.

// spoil writes into all that a list has, and behind its end.
func spoil[T any](l []T, v T) {
	for i := range l[:cap(l)] {
		l[:cap(l)][i] = v
	}
}

const both = "group g = ann, h2; via 1, 2, 3: g -> any; deny: any -> bob;"

func TestNoListIsShared(t *testing.T) {
	c := compiled(t, both, "ann bob", "h1 h2")
	want := modelRows(policy(t, both), list("ann bob"), list("h1 h2"))
	a := ask(who("ann", "h1"), who("bob", "h1"), 6, 80)
	v, w, l, m := c.Lookup(a), c.Lookup(a), c.Rows(), c.Rows()
	spoil(v.Via, -7)
	spoil(l[0].Verdict.Via, -7)
	if !alike(l[1].Verdict, said(pol.Via, 0, 1, 2, 3)) {
		t.Errorf("%+v", l[1])
	}
	spoil(l[1].Verdict.Via, -8)
	spoil(l, table.Row{})
	if !alike(w, said(pol.Via, 0, 1, 2, 3)) || !alike(c.Lookup(a), w) || !alikeRows(m, want) || !alikeRows(c.Rows(), want) {
		t.Errorf("%+v, %+v, %+v", w, m, c.Rows())
	}
}

func TestNoListIsKept(t *testing.T) {
	p, users, hosts := policy(t, both), list("ann bob"), list("h1 h2")
	s, _, e := group.Resolve(p, "ann", "bob", "h1", "h2")
	if e != api.OK {
		t.Fatal(e)
	}
	c, want := compile(t, p, s, users, hosts), modelRows(policy(t, both), users, hosts)
	spoil(p.Rules[0].Via, -7)
	spoil(p.Rules[0].From, pol.Lit{Name: "no"})
	spoil(p.Rules, pol.Rule{})
	spoil(p.Groups[0].Members, "no")
	spoil(p.Groups, pol.Group{})
	spoil(users, "no")
	spoil(hosts, "no")
	if !alikeRows(c.Rows(), want) {
		t.Errorf("%+v", c.Rows())
	}
	looks(t, c, ask(who("ann", "h1"), who("bob", "h1"), 6, 80), said(pol.Via, 0, 1, 2, 3))
	looks(t, c, ask(who("no", "h1"), who("bob", "h1"), 6, 80), none)
	looks(t, c, ask(who("ann", "no"), who("bob", "h1"), 6, 80), none)
}

func TestNothingHandedInIsChanged(t *testing.T) {
	p, users, hosts := policy(t, both), list("bob ann"), list("h2 h1")
	s, _, e := group.Resolve(p, "ann", "bob", "h1", "h2")
	if e != api.OK {
		t.Fatal(e)
	}
	compile(t, p, s, users, hosts)
	refuses(t, p, s, users, []string{"h2", "ann", "h1"}, api.ErrThere)
	if !pol.Same(p, policy(t, both)) || strings.Join(users, " ") != "bob ann" || strings.Join(hosts, " ") != "h2 h1" || strings.Join(s.Members("g"), " ") != "ann h2" {
		t.Error(p, users, hosts, s.Members("g"))
	}
}

// A table holds on to no bytes of a name that was handed in.
func TestNoNameIsKept(t *testing.T) {
	b := []byte("annh01")
	user, host := unsafe.String(&b[0], 3), unsafe.String(&b[3], 3)
	c := compile(t, policy(t, "allow: ann -> any;"), group.Sets{}, []string{user}, []string{host})
	copy(b, "bobh02")
	looks(t, c, ask(who("ann", "h01"), who("ann", "h01"), 6, 80), said(pol.Allow, 0))
	looks(t, c, ask(who("bob", "h02"), who("bob", "h02"), 6, 80), none)
}
