package group_test

import (
	"slices"
	"strings"
	"testing"

	"ostiary/api"
	"ostiary/group"
	"ostiary/pol"
)

func policy(t *testing.T, s string) pol.Policy {
	t.Helper()
	p, at, e := pol.Parse(s)
	if e != api.OK {
		t.Fatalf("Parse of %q: %d, %d", s, at, e)
	}
	return p
}

// has fails unless the text's groups have just what want tells of each.
func has(t *testing.T, text string, known []string, want map[string]string) {
	t.Helper()
	got := resolved(t, policy(t, text), known...)
	if got.name != "" || got.e != api.OK || len(got.sets) != len(want) {
		t.Errorf("%q: %v", text, got)
	}
	for g, all := range want {
		if strings.Join(got.sets[g], " ") != all {
			t.Errorf("%q: %s has %q, not %q", text, g, got.sets[g], all)
		}
	}
}

func refuses(t *testing.T, text string, known []string, name string, e api.Errno) {
	t.Helper()
	if got := resolved(t, policy(t, text), known...); got.name != name || got.e != e {
		t.Errorf("%q for %q: %q, %d; not %q, %d", text, known, got.name, got.e, name, e)
	}
}

func list(s string) []string { return strings.Fields(s) }

func TestExample(t *testing.T) {
	has(t, "group a = b, ann; group b = bob;", list("ann bob"), map[string]string{"a": "ann bob", "b": "bob"})
	refuses(t, "group a = b; group b = a;", nil, "a", api.ErrCycle)
}

// P14.1, P14.2: sets.

func TestOfNoGroups(t *testing.T) {
	has(t, "", nil, nil)
	has(t, "", list("ann bob"), nil)
	has(t, "allow: any -> any; deny: ann -> !bob;", list("ann bob"), nil)
}

func TestSets(t *testing.T) {
	known := list("ann bob eve h1 h2")
	has(t, "group g = ann;", known, map[string]string{"g": "ann"})
	has(t, "group g = h2, bob, ann, h1, eve;", known, map[string]string{"g": "ann bob eve h1 h2"})
	has(t, "group g = ann, ann, bob, ann;", known, map[string]string{"g": "ann bob"})
	has(t, "group z = ann; group b = bob; group a = z;", known, map[string]string{"a": "ann", "b": "bob", "z": "ann"})
	has(t, "group a = b; group b = c; group c = d; group d = h1;", known, map[string]string{"a": "h1", "b": "h1", "c": "h1", "d": "h1"})
	has(t, "group a = b, c; group b = d, ann; group c = d, bob; group d = eve;", known, map[string]string{"a": "ann bob eve", "b": "ann eve", "c": "bob eve", "d": "eve"})
	has(t, "group d = eve; group c = d, d, bob; group a = c, b, a1; group a1 = h2; group b = d;", known, map[string]string{"a": "bob eve h2", "a1": "h2", "b": "eve", "c": "bob eve", "d": "eve"})
	has(t, "group a = ann; allow: a & ann & !bob -> any; via 1: any -> !a & h1 tcp;", known, map[string]string{"a": "ann"})
}

// Names rise byte by byte: one ahead of all that it is the beginning of, and 9 ahead of a.
func TestTheOrderOfNames(t *testing.T) {
	has(t, "group g = b, az, a9, aaaaaaaa, a10, a1, aa, a, z;", list("z b az a9 aaaaaaaa a10 a1 aa a"), map[string]string{"g": "a a1 a10 a9 aa aaaaaaaa az b z"})
	s, _, _ := group.Resolve(policy(t, "group b = x; group az = x; group a9 = x; group aaaaaaaa = x; group a10 = x; group a1 = x; group aa = x; group a = x;"), "x")
	if got := strings.Join(s.Names(), " "); got != "a a1 a10 a9 aa aaaaaaaa az b" {
		t.Error(got)
	}
}

func TestWhoIsKnown(t *testing.T) {
	const text = "group g = ann; allow: bob -> g;"
	for _, known := range []string{"ann bob", "bob ann", "ann ann bob ann bob", "zoe bob any ann Group ;"} {
		has(t, text, list(known), map[string]string{"g": "ann"})
	}
	odd := []string{"", " ", "ann ", "\x00", "\xff", "ANN", "group", strings.Repeat("g", 1<<16), "ann", "", "bob"}
	has(t, text, odd, map[string]string{"g": "ann"})
	many := list("ann bob")
	for i := range 5000 {
		many = append(many, strings.Repeat("x", i%100)+string(rune('A'+i%26)))
	}
	s, name, e := group.Resolve(policy(t, text), many...)
	if name != "" || e != api.OK || !s.Has("g", "ann") || s.Has("g", "A") || len(s.Members("g")) != 1 {
		t.Error(name, e, s.Members("g"))
	}
}

func TestHas(t *testing.T) {
	s, _, _ := group.Resolve(policy(t, "group a = b, ann; group b = bob; allow: eve -> any;"), "ann", "bob", "eve")
	for _, yes := range [][2]string{{"a", "ann"}, {"a", "bob"}, {"b", "bob"}} {
		if !s.Has(yes[0], yes[1]) {
			t.Error(yes, "is none")
		}
	}
	for _, no := range [][2]string{{"b", "ann"}, {"a", "eve"}, {"b", "eve"}, {"a", "a"}, {"a", "b"}, {"b", "a"}, {"ann", "ann"}, {"ann", "a"}, {"", ""}, {"a", ""}, {"", "ann"}, {"a", "an"}, {"a", "annn"}, {"A", "ann"}, {"a", "Ann"}, {"any", "ann"}, {"c", "bob"}, {strings.Repeat("a", 1<<20), strings.Repeat("b", 1<<20)}} {
		if s.Has(no[0], no[1]) {
			t.Error(no, "is one")
		}
	}
	for _, no := range []string{"", "c", "ann", "A", "aa", "any", strings.Repeat("a", 1<<20)} {
		if l := s.Members(no); len(l) != 0 {
			t.Error(no, l)
		}
	}
}

func TestSetsThatNobodyResolved(t *testing.T) {
	var s group.Sets
	if s.Has("", "") || s.Has("a", "ann") || len(s.Members("")) != 0 || len(s.Members("a")) != 0 || len(s.Names()) != 0 {
		t.Error(s)
	}
}

// P14.1: errors.

func TestErrArg(t *testing.T) {
	good := pol.Group{Name: "g", Members: []string{"ann"}}
	for _, p := range []pol.Policy{
		{Groups: []pol.Group{{}}},
		{Groups: []pol.Group{{Name: "g"}}},
		{Groups: []pol.Group{good, good}},
		{Groups: []pol.Group{{Name: "any", Members: []string{"ann"}}}},
		{Groups: []pol.Group{{Name: "g", Members: []string{""}}}},
		{Groups: []pol.Group{{Name: "g", Members: []string{"ann", "Bob"}}}},
		{Groups: []pol.Group{{Name: "g", Members: slices.Repeat([]string{"ann"}, 17)}}},
		{Groups: make([]pol.Group, 17)},
		{Rules: []pol.Rule{{}}},
		{Rules: []pol.Rule{{Act: 1, Proto: -1, From: []pol.Lit{{}}}}},
		{Rules: []pol.Rule{{Act: 4, Proto: -1}}},
		{Groups: []pol.Group{good}, Rules: slices.Repeat([]pol.Rule{{Act: 1, Proto: -1}}, 65)},
	} {
		for _, known := range [][]string{nil, {"ann"}, {"g", "ann"}, {""}, {"any", "ann", "Bob"}} { // ahead of all other errors
			if got := resolved(t, p, known...); got.name != "" || got.e != api.ErrArg {
				t.Errorf("%+v for %q: %v", p, known, got)
			}
		}
	}
}

func TestErrThere(t *testing.T) {
	refuses(t, "group g = ann;", list("ann g"), "g", api.ErrThere)
	refuses(t, "group g = ann;", list("g"), "g", api.ErrThere)
	refuses(t, "group b = ann; group a = ann; group c = ann;", list("c a ann"), "a", api.ErrThere)
	refuses(t, "group c = ann; group b = ann; group a = ann;", list("a c ann"), "c", api.ErrThere)
	refuses(t, "group a = zoe; group b = b; allow: zoe -> zoe;", list("b"), "b", api.ErrThere) // ahead of ErrName and ErrCycle
	refuses(t, "group a = b; group b = a;", list("a b"), "a", api.ErrThere)
}

func TestErrName(t *testing.T) {
	known := list("ann bob")
	refuses(t, "group g = zoe;", known, "zoe", api.ErrName)
	refuses(t, "group g = ann;", nil, "ann", api.ErrName)
	refuses(t, "group g = ann, h, zoe, yak; group h = xia;", known, "zoe", api.ErrName)
	refuses(t, "group g = ann, h; group h = bob, xia, ann; group i = zoe;", known, "xia", api.ErrName)
	refuses(t, "allow: zoe -> any;", known, "zoe", api.ErrName)
	refuses(t, "allow: any -> zoe;", known, "zoe", api.ErrName)
	refuses(t, "allow: !zoe -> any;", known, "zoe", api.ErrName)
	refuses(t, "allow: ann & bob & !zoe & yak -> xia;", known, "zoe", api.ErrName)
	refuses(t, "allow: ann -> bob & ann & !yak; allow: zoe -> ann;", known, "yak", api.ErrName)
	refuses(t, "allow: any -> any; deny: zoe -> yak; allow: any -> xia;", known, "zoe", api.ErrName) // From ahead of To
	refuses(t, "allow: any -> yak; deny: zoe -> any;", known, "yak", api.ErrName)                    // but rule by rule
	refuses(t, "allow: zoe -> any; group g = yak;", known, "yak", api.ErrName)                       // members ahead of literals
	refuses(t, "group a = a; allow: any -> zoe;", known, "zoe", api.ErrName)                         // ahead of ErrCycle
	refuses(t, "group a = b; group b = a, zoe;", known, "zoe", api.ErrName)
	refuses(t, "group g = an;", known, "an", api.ErrName)
	refuses(t, "group g = annn;", known, "annn", api.ErrName)
}

func TestErrCycle(t *testing.T) {
	known := list("ann bob")
	refuses(t, "group a = a;", known, "a", api.ErrCycle)
	refuses(t, "group a = ann, bob, a;", known, "a", api.ErrCycle)
	refuses(t, "group b = a; group a = b;", known, "b", api.ErrCycle)
	refuses(t, "group a = b; group b = c; group c = a;", known, "a", api.ErrCycle)
	refuses(t, "group x = ann; group c = b; group b = a; group a = x, c;", known, "c", api.ErrCycle)
	// one that only has such a group among its members is not within itself
	refuses(t, "group a = b; group b = b;", known, "b", api.ErrCycle)
	refuses(t, "group a = b; group b = c; group c = d; group d = ann, c;", known, "c", api.ErrCycle)
	refuses(t, "group a = c, b; group c = d; group b = b; group d = c;", known, "c", api.ErrCycle)
	refuses(t, "group a = d, c; group b = a; group d = ann; group e = c; group c = e;", known, "e", api.ErrCycle)
	has(t, "group a = b, c, d; group b = c, d; group c = d; group d = ann;", known, map[string]string{"a": "ann", "b": "ann", "c": "ann", "d": "ann"})
}

// P1: it ends, however many ways lead from group to group.
func TestManyWays(t *testing.T) {
	chain, all, ring := pol.Policy{}, pol.Policy{}, pol.Policy{}
	name := func(i int) string { return "g" + string([]byte{'a' + byte(i)}) }
	for i := range 16 {
		behind := []string{"ann"}
		for j := i + 1; j < 16; j++ {
			behind = append(behind, name(j))
		}
		next := slices.Repeat([]string{name(i + 1)}, 16)
		if i == 15 {
			next = []string{"ann"}
		}
		chain.Groups = append(chain.Groups, pol.Group{Name: name(i), Members: next})
		all.Groups = append(all.Groups, pol.Group{Name: name(i), Members: behind})
		ring.Groups = append(ring.Groups, pol.Group{Name: name(i), Members: slices.Repeat([]string{name((i + 1) % 16), name((i + 3) % 16)}, 8)})
	}
	for _, p := range []pol.Policy{chain, all} {
		got := resolved(t, p, "ann")
		if got.e != api.OK || len(got.sets) != 16 {
			t.Fatal(got)
		}
		for g, l := range got.sets {
			if !slices.Equal(l, []string{"ann"}) {
				t.Error(g, l)
			}
		}
	}
	if got := resolved(t, ring, "ann"); got.name != "ga" || got.e != api.ErrCycle {
		t.Error(got)
	}
}

// As many as there can be: 16 groups, with 15 of their own each, and all those behind.
func TestTheMostMembers(t *testing.T) {
	var p pol.Policy
	var known []string
	for i := range 16 {
		g := pol.Group{Name: "g" + string([]byte{'a' + byte(i)})}
		for j := range 16 {
			if j == 15 && i < 15 {
				g.Members = append(g.Members, "g"+string([]byte{'a' + byte(i+1)}))
				continue
			}
			g.Members = append(g.Members, "m"+string([]byte{'a' + byte(i), 'a' + byte(j)}))
			known = append(known, g.Members[j])
		}
		p.Groups = append(p.Groups, g)
	}
	isAsTheModel(t, p, known...)
	s, _, e := group.Resolve(p, known...)
	if e != api.OK || !slices.Equal(s.Members("ga"), known) || len(s.Members("gp")) != 16 {
		t.Error(e, s.Members("ga"), s.Members("gp"))
	}
}

// The rules that hold everywhere.

func TestNoListIsShared(t *testing.T) {
	p := policy(t, "group a = b, ann; group b = bob, eve; deny: a -> bob;")
	known := list("ann bob eve")
	s, _, _ := group.Resolve(p, known...)
	spoil := func(l []string) {
		for i := range l[:cap(l)] {
			l[:cap(l)][i] = "zoe"
		}
	}
	spoil(s.Names())
	spoil(s.Members("a"))
	spoil(s.Members("b"))
	again := s
	spoil(known)
	spoil(p.Groups[0].Members)
	spoil(p.Groups[1].Members)
	p.Groups[0].Name, p.Groups[1] = "c", pol.Group{}
	for _, s := range []group.Sets{s, again} {
		if strings.Join(s.Names(), " ") != "a b" || strings.Join(s.Members("a"), " ") != "ann bob eve" || strings.Join(s.Members("b"), " ") != "bob eve" || !s.Has("a", "eve") || s.Has("a", "zoe") {
			t.Error(s.Names(), s.Members("a"), s.Members("b"))
		}
	}
}

func TestNothingHandedInIsChanged(t *testing.T) {
	const text = "group b = a, zoe, ann, ann; group a = eve, bob; allow: b & !a -> zoe;"
	p, known := policy(t, text), list("zoe eve bob ann eve")
	group.Resolve(p, known...)
	group.Resolve(p, known[:2]...)
	if !pol.Same(p, policy(t, text)) || strings.Join(known, " ") != "zoe eve bob ann eve" {
		t.Error(p, known)
	}
}

// Two sets know nothing of one another.
func TestTwoSets(t *testing.T) {
	a, _, _ := group.Resolve(policy(t, "group g = ann;"), "ann", "bob")
	b, _, _ := group.Resolve(policy(t, "group g = bob;"), "ann", "bob")
	if !a.Has("g", "ann") || a.Has("g", "bob") || b.Has("g", "ann") || !b.Has("g", "bob") {
		t.Error(a.Members("g"), b.Members("g"))
	}
}
