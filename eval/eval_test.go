package eval_test

import (
	"math"
	"slices"
	"strings"
	"testing"
	"unsafe"

	"ostiary/api"
	"ostiary/audit"
	"ostiary/eval"
	"ostiary/group"
	"ostiary/pol"
)

func policy(t *testing.T, s string) pol.Policy {
	t.Helper()
	p, at, e := pol.Parse(s)
	if e != api.OK {
		t.Fatalf("Parse of %q: %d, %d", s, at, e)
	}
	return p
}

func list(s string) []string { return strings.Fields(s) }

func who(user, host string) audit.Who { return audit.Who{User: user, Host: host} }

func is(name string) pol.Lit { return pol.Lit{Name: name} }

func not(name string) pol.Lit { return pol.Lit{Not: true, Name: name} }

// decides fails unless a text says just that of a question.
func decides(t *testing.T, text string, a eval.Ask, want eval.Verdict) {
	t.Helper()
	p := policy(t, text)
	if got := eval.Decide(p, sets(t, p), a); !alike(got, want) {
		t.Errorf("%q of %+v: %+v, not %+v", text, a, got, want)
	}
}

func said(act, rule int, via ...int) eval.Verdict {
	return eval.Verdict{Act: act, Rule: rule, Via: via}
}

var (
	annAt1 = who("ann", "h1")
	annAt2 = who("ann", "h2")
	bobAt1 = who("bob", "h1")
	bobAt2 = who("bob", "h2")
	eveAt2 = who("eve", "h2")
)

var none = said(pol.Deny, -1)

func TestExample(t *testing.T) {
	const text = "group web = h1; deny: eve -> any; allow: any -> web tcp port 80;"
	p := policy(t, text)
	s, _, e := group.Resolve(p, "ann", "bob", "eve", "h1", "h2")
	if e != api.OK {
		t.Fatal(e)
	}
	for want, a := range map[[2]int]eval.Ask{
		{pol.Allow, 1}: {From: annAt2, To: bobAt1, Proto: api.Tcp, Port: 80},
		{pol.Deny, 0}:  {From: eveAt2, To: bobAt1, Proto: api.Tcp, Port: 80},
		{pol.Deny, -1}: {From: annAt2, To: bobAt1, Proto: api.Tcp, Port: 81},
	} {
		if got := eval.Decide(p, s, a); !alike(got, said(want[0], want[1])) {
			t.Errorf("%+v: %+v", a, got)
		}
	}
}

// P15.1: Fits.

func TestFits(t *testing.T) {
	s := sets(t, policy(t, "group staff = ann, lab; group lab = bob, h2; group web = h1;"))
	for _, c := range []struct {
		who  audit.Who
		l    []pol.Lit
		want bool
	}{
		{annAt1, nil, true},
		{audit.Who{}, nil, true},
		{annAt1, []pol.Lit{is("ann")}, true},   // by the user
		{annAt1, []pol.Lit{is("h1")}, true},    // by the machine
		{annAt1, []pol.Lit{is("staff")}, true}, // by a group that has the user
		{eveAt2, []pol.Lit{is("staff")}, true}, // the machine
		{annAt1, []pol.Lit{is("web")}, true},
		{annAt2, []pol.Lit{is("web")}, false},
		{annAt1, []pol.Lit{is("lab")}, false},
		{annAt2, []pol.Lit{is("lab")}, true},
		{bobAt1, []pol.Lit{is("lab")}, true},
		{bobAt1, []pol.Lit{is("staff")}, true},
		{annAt1, []pol.Lit{is("bob")}, false},
		{annAt1, []pol.Lit{is("h2")}, false},
		{annAt1, []pol.Lit{not("ann")}, false},
		{annAt1, []pol.Lit{not("h1")}, false},
		{annAt1, []pol.Lit{not("staff")}, false},
		{annAt1, []pol.Lit{not("web")}, false},
		{annAt1, []pol.Lit{not("lab")}, true},
		{annAt1, []pol.Lit{not("bob")}, true},
		{annAt1, []pol.Lit{is("ann"), is("h1"), is("staff"), is("web")}, true},
		{annAt1, []pol.Lit{is("ann"), is("bob")}, false},
		{annAt1, []pol.Lit{is("bob"), is("ann")}, false},
		{annAt1, []pol.Lit{is("ann"), not("h1")}, false},
		{annAt1, []pol.Lit{is("ann"), not("h2"), not("lab"), not("bob")}, true},
		{annAt1, []pol.Lit{is("ann"), not("ann")}, false},
		{annAt1, []pol.Lit{not("eve"), not("ann")}, false},
		{annAt1, []pol.Lit{is("zoe")}, false},
		{annAt1, []pol.Lit{not("zoe")}, true},
		{who("zoe", "h9"), []pol.Lit{is("zoe"), is("h9"), not("staff")}, true}, // one that no set knows has his own names
		{who("zoe", "h2"), []pol.Lit{is("staff")}, true},
		{who("staff", "h1"), []pol.Lit{is("staff"), not("lab")}, true}, // a user may have a group's name
		{who("eve", "lab"), []pol.Lit{is("lab"), not("staff")}, true},
		{who("h1", "ann"), []pol.Lit{is("web"), is("staff")}, true},
		{who("", "h1"), []pol.Lit{is("")}, true},
		{who("ann", ""), []pol.Lit{is("")}, true},
		{annAt1, []pol.Lit{is("")}, false},
		{annAt1, []pol.Lit{not("")}, true},
		{annAt1, []pol.Lit{is("an")}, false},
		{annAt1, []pol.Lit{is("annn")}, false},
		{annAt1, []pol.Lit{is("Ann")}, false},
		{annAt1, []pol.Lit{is("any")}, false},
	} {
		if got := eval.Fits(s, c.who, c.l...); got != c.want {
			t.Errorf("%+v, %+v: %t", c.who, c.l, got)
		}
	}
}

func TestFitsOfSetsThatNobodyResolved(t *testing.T) {
	var s group.Sets
	if !eval.Fits(s, annAt1) || !eval.Fits(s, annAt1, is("ann"), is("h1"), not("g"), not("")) || eval.Fits(s, annAt1, is("g")) || !eval.Fits(s, audit.Who{}, is("")) {
		t.Error("Fits")
	}
}

func TestFitsOfVeryMany(t *testing.T) {
	s := sets(t, policy(t, "group g = ann;"))
	l := slices.Repeat([]pol.Lit{is("g"), not("bob"), is("h1")}, 1<<15)
	if !eval.Fits(s, annAt1, l...) || eval.Fits(s, annAt2, l...) {
		t.Error("Fits")
	}
	l[len(l)-1].Name = strings.Repeat("h", 1<<20)
	if eval.Fits(s, annAt1, l...) {
		t.Error("the last one plays no part")
	}
}

// P15.1: Decide.

func TestDecideByWho(t *testing.T) {
	const text = "group lab = bob, h2; deny: eve -> any; allow: lab & !bob -> ann; via 2, 3: ann -> lab; outbound: any -> any ip 6;"
	ask := func(from, to audit.Who) eval.Ask { return eval.Ask{From: from, To: to, Proto: api.Tcp, Port: 80} }
	decides(t, text, ask(eveAt2, annAt1), said(pol.Deny, 0))
	decides(t, text, ask(annAt2, annAt1), said(pol.Allow, 1))
	decides(t, text, ask(bobAt2, annAt1), said(pol.Outbound, 3))
	decides(t, text, ask(annAt1, bobAt1), said(pol.Via, 2, 2, 3))
	decides(t, text, ask(annAt1, eveAt2), said(pol.Via, 2, 2, 3)) // To alone plays no part for the first rule
	decides(t, text, ask(bobAt1, eveAt2), said(pol.Outbound, 3))
	decides(t, text, ask(annAt2, bobAt2), said(pol.Via, 2, 2, 3))
	decides(t, "deny: eve -> any;", ask(annAt1, eveAt2), none)
	decides(t, "deny: any -> eve;", ask(eveAt2, annAt1), none)
	decides(t, "allow: ann -> bob;", ask(bobAt1, annAt2), none)
}

func TestDecideOfNoRules(t *testing.T) {
	var p pol.Policy
	for _, a := range []eval.Ask{{}, {From: annAt1, To: bobAt2, Proto: api.Udp, Port: 53}} {
		if got := eval.Decide(p, group.Sets{}, a); !alike(got, none) {
			t.Errorf("%+v: %+v", a, got)
		}
	}
}

func TestDecideByProtocol(t *testing.T) {
	for _, c := range []struct {
		text  string
		proto int
		want  eval.Verdict
	}{
		{"allow: any -> any;", 6, said(1, 0)},
		{"allow: any -> any;", 0, said(1, 0)},
		{"allow: any -> any;", -1, said(1, 0)},
		{"allow: any -> any;", -2, said(1, 0)},
		{"allow: any -> any;", 256, said(1, 0)},
		{"allow: any -> any;", math.MaxInt, said(1, 0)},
		{"allow: any -> any tcp;", 6, said(1, 0)},
		{"allow: any -> any tcp;", 17, none},
		{"allow: any -> any tcp;", -1, none},
		{"allow: any -> any tcp;", 262, none},
		{"allow: any -> any tcp;", math.MinInt, none},
		{"allow: any -> any udp;", 17, said(1, 0)},
		{"allow: any -> any udp;", 6, none},
		{"allow: any -> any ip 0;", 0, said(1, 0)},
		{"allow: any -> any ip 0;", -1, none},
		{"allow: any -> any ip 1;", 1, said(1, 0)},
		{"allow: any -> any ip 1;", 0, none},
		{"deny: any -> any ip 1; allow: any -> any ip 2; via 7: any -> any;", 2, said(1, 1)},
		{"deny: any -> any ip 1; allow: any -> any ip 2; via 7: any -> any;", 3, said(4, 2, 7)},
	} {
		decides(t, c.text, eval.Ask{From: annAt1, To: bobAt2, Proto: c.proto, Port: 80}, c.want)
	}
}

func TestDecideByPort(t *testing.T) {
	for _, c := range []struct {
		text string
		port int
		fits bool
	}{
		{"allow: any -> any tcp;", 0, true},
		{"allow: any -> any tcp;", -1, true},
		{"allow: any -> any tcp;", math.MaxInt, true},
		{"allow: any -> any tcp port 80;", 79, false},
		{"allow: any -> any tcp port 80;", 80, true},
		{"allow: any -> any tcp port 80;", 81, false},
		{"allow: any -> any tcp port 80-82;", 79, false},
		{"allow: any -> any tcp port 80-82;", 80, true},
		{"allow: any -> any tcp port 80-82;", 81, true},
		{"allow: any -> any tcp port 80-82;", 82, true},
		{"allow: any -> any tcp port 80-82;", 83, false},
		{"allow: any -> any tcp port 0;", 0, true},
		{"allow: any -> any tcp port 0;", 1, false},
		{"allow: any -> any tcp port 0;", -1, false},
		{"allow: any -> any tcp port 0-65535;", 65535, true},
		{"allow: any -> any tcp port 0-65535;", 65536, false},
		{"allow: any -> any tcp port 0-65535;", -1, false},
		{"allow: any -> any tcp port 0-65535;", math.MinInt, false},
	} {
		want := none
		if c.fits {
			want = said(pol.Allow, 0)
		}
		decides(t, c.text, eval.Ask{From: annAt1, To: bobAt2, Proto: api.Tcp, Port: c.port}, want)
	}
	decides(t, "allow: any -> any tcp port 80;", eval.Ask{From: annAt1, To: bobAt2, Proto: api.Udp, Port: 80}, none)
}

// A policy that may not be says what its rules say, too.
func TestDecideOfPoliciesThatMayNotBe(t *testing.T) {
	a := eval.Ask{From: annAt1, To: bobAt2, Proto: 1 << 20, Port: -5}
	for _, c := range []struct {
		u    pol.Rule
		want eval.Verdict
	}{
		{pol.Rule{Proto: -1}, said(0, 0)},
		{pol.Rule{Act: -7, Proto: -1}, said(-7, 0)},
		{pol.Rule{Act: math.MaxInt, Proto: -1, Via: []int{-1, 99}}, said(math.MaxInt, 0, -1, 99)},
		{pol.Rule{Act: pol.Allow, Proto: -1, Via: []int{0}}, said(pol.Allow, 0, 0)},
		{pol.Rule{Act: pol.Via, Proto: 1 << 20}, said(pol.Via, 0)},
		{pol.Rule{Act: pol.Allow, Proto: 1<<20 + 1}, none},
		{pol.Rule{Act: pol.Allow, Proto: -2}, none},
		{pol.Rule{Act: pol.Allow, Proto: -1, Lo: 80, Hi: 443}, said(pol.Allow, 0)}, // without Ports they play no part
		{pol.Rule{Act: pol.Allow, Proto: -1, Ports: true, Lo: -5, Hi: -5}, said(pol.Allow, 0)},
		{pol.Rule{Act: pol.Allow, Proto: -1, Ports: true, Lo: -4, Hi: -6}, none},
		{pol.Rule{Act: pol.Allow, Proto: -1, Ports: true, Lo: math.MinInt, Hi: math.MaxInt}, said(pol.Allow, 0)},
		{pol.Rule{Act: pol.Allow, Proto: -1, From: slices.Repeat([]pol.Lit{is("ann")}, 100), To: []pol.Lit{not("")}}, said(pol.Allow, 0)},
		{pol.Rule{Act: pol.Allow, Proto: -1, From: []pol.Lit{is("any")}}, none},
	} {
		if got := eval.Decide(pol.Policy{Rules: []pol.Rule{c.u}}, group.Sets{}, a); !alike(got, c.want) {
			t.Errorf("%+v: %+v, not %+v", c.u, got, c.want)
		}
	}
	many := pol.Policy{Rules: slices.Repeat([]pol.Rule{{Act: 1, Proto: -1, From: []pol.Lit{is("eve")}}}, 1<<16)}
	many.Rules = append(many.Rules, pol.Rule{Act: 3, Proto: -1})
	if got := eval.Decide(many, group.Sets{}, a); !alike(got, said(3, 1<<16)) {
		t.Error(got)
	}
}

// Whose sets they are is not asked: a policy means by them what they say.
func TestDecideOfOtherSets(t *testing.T) {
	p := policy(t, "group g = ann; allow: g -> any;")
	s := sets(t, policy(t, "group g = bob; group h = eve;"))
	if got := eval.Decide(p, s, eval.Ask{From: annAt1, To: eveAt2}); !alike(got, none) {
		t.Error(got)
	}
	if got := eval.Decide(p, s, eval.Ask{From: bobAt1, To: eveAt2}); !alike(got, said(pol.Allow, 0)) {
		t.Error(got)
	}
}

// P15.1: Same, Allowed, None.

func TestSame(t *testing.T) {
	all := []eval.Verdict{
		{}, {Act: 1}, {Act: -1}, {Rule: 1}, {Rule: -1}, {Act: 1, Rule: 1}, {Act: 2, Rule: -1},
		{Via: []int{0}}, {Via: []int{1}}, {Via: []int{1, 2}}, {Via: []int{2, 1}}, {Via: []int{1, 2, 3}}, {Act: 4, Via: []int{1, 2}}, {Rule: 4, Via: []int{1, 2}},
	}
	for i, a := range all {
		for j, b := range all {
			b.Via = slices.Clone(b.Via)
			if got := eval.Same(a, b); got != (i == j) {
				t.Errorf("%+v, %+v: %t", a, b, got)
			}
		}
	}
	if !eval.Same(eval.Verdict{Act: 1, Via: []int{}}, eval.Verdict{Act: 1}) {
		t.Error("a nil list is an empty one")
	}
}

func TestAllowed(t *testing.T) {
	for _, act := range []int{math.MinInt, -4, -3, -1, 0, 1, 2, 3, 4, 5, 6, 7, 257, 1<<32 + 1, math.MaxInt} {
		want := act == 1 || act == 3 || act == 4
		for _, v := range []eval.Verdict{{Act: act}, {Act: act, Rule: -1, Via: []int{1}}, {Act: act, Rule: 63}} {
			if v.Allowed() != want {
				t.Errorf("%+v: %t", v, !want)
			}
		}
	}
}

func TestNone(t *testing.T) {
	if v := eval.None(); v.Act != pol.Deny || v.Rule != -1 || len(v.Via) != 0 || v.Allowed() {
		t.Errorf("%+v", v)
	}
}

// P15.2.

func orders(t *testing.T, p pol.Policy, want ...string) {
	t.Helper()
	if got := eval.Order(p); !slices.Equal(got, want) {
		t.Errorf("%+v: %q, not %q", p, got, want)
	}
}

func TestOrder(t *testing.T) {
	orders(t, pol.Policy{})
	orders(t, policy(t, "allow: any -> any tcp port 80;"))
	orders(t, policy(t, "group g = ann;"), "ann", "g")
	orders(t, policy(t, "allow: ann -> any;"), "ann")
	orders(t, policy(t, "allow: any -> !bob;"), "bob")
	orders(t, policy(t, "group web = h1, h2; group a = web, z; deny: eve & !web -> a & ann; via 2: ann -> bob & eve;"), "a", "ann", "bob", "eve", "h1", "h2", "web", "z")
	orders(t, policy(t, "group g = g, g; deny: g & !g -> g;"), "g")
	orders(t, policy(t, "group b = az, a9; group aaaaaaaa = a10, a1; deny: aa -> a; allow: z & z9 -> za;"), "a", "a1", "a10", "a9", "aa", "aaaaaaaa", "az", "b", "z", "z9", "za")
}

func TestOrderOfPoliciesThatMayNotBe(t *testing.T) {
	orders(t, pol.Policy{Groups: []pol.Group{{}}}, "")
	orders(t, pol.Policy{Rules: []pol.Rule{{}}})
	orders(t, pol.Policy{Groups: []pol.Group{{Name: "b"}, {Name: "b"}, {Name: "B"}, {Members: []string{"\xff", "any", "ä", "\x00", "b ", ""}}}, Rules: []pol.Rule{{From: []pol.Lit{is("Z"), is("b")}, To: []pol.Lit{not("0")}}}},
		"", "\x00", "0", "B", "Z", "any", "b", "b ", "ä", "\xff")
}

// So many that it plays a part how they are put in order.
func TestOrderOfVeryMany(t *testing.T) {
	const n = 1 << 18
	name := func(i int) string { return string([]byte{byte(i >> 16), byte(i >> 8), byte(i)}) }
	var p pol.Policy
	for i := n; i > 0; i-- {
		p.Rules = append(p.Rules, pol.Rule{To: []pol.Lit{is(name(i)), not(name(i))}})
	}
	l := eval.Order(p)
	if len(l) != n {
		t.Fatal(len(l))
	}
	for i, got := range l {
		if got != name(i+1) {
			t.Fatalf("%d: %q", i, got)
		}
	}
}

// The rules that hold everywhere.

func TestNoListIsShared(t *testing.T) {
	const text = "group g = ann, bob; via 1, 2, 3: g -> any; deny: any -> eve;"
	p := policy(t, text)
	s := sets(t, p)
	a := eval.Ask{From: annAt1, To: bobAt2}
	v, w := eval.Decide(p, s, a), eval.Decide(p, s, a)
	l, m := eval.Order(p), eval.Order(p)
	fill(v.Via, -7)
	fill(l, "no")
	if !pol.Same(p, policy(t, text)) || !alike(w, said(pol.Via, 0, 1, 2, 3)) || !alike(eval.Decide(p, s, a), w) {
		t.Errorf("%+v, %+v", p, w)
	}
	if !slices.Equal(m, list("ann bob eve g")) || !slices.Equal(eval.Order(p), m) {
		t.Error(m)
	}
	fill(p.Rules[0].Via, -7)
	if !alike(w, said(pol.Via, 0, 1, 2, 3)) {
		t.Errorf("%+v", w)
	}
}

// fill writes into all that a list has, and behind its end.
func fill[T any](l []T, v T) {
	for i := range l[:cap(l)] {
		l[:cap(l)][i] = v
	}
}

func TestNothingHandedInIsChanged(t *testing.T) {
	const text = "group z = eve, ann, bob, ann; group a = z; via 3, 1: z & !bob -> ann & !a udp port 5-9; allow: eve -> ann;"
	p := policy(t, text)
	s := sets(t, p)
	l := []pol.Lit{not("z"), is("ann"), not("bob"), is("ann")}
	eval.Order(p)
	eval.Decide(p, s, eval.Ask{From: eveAt2, To: annAt1})
	eval.Fits(s, annAt1, l...)
	eval.Same(eval.Verdict{Via: p.Rules[0].Via}, eval.Verdict{Via: []int{3, 2}})
	if !pol.Same(p, policy(t, text)) || !slices.Equal(l, []pol.Lit{not("z"), is("ann"), not("bob"), is("ann")}) {
		t.Error(p, l)
	}
	if strings.Join(s.Names(), " ") != "a z" || strings.Join(s.Members("z"), " ") != "ann bob eve" {
		t.Error(s.Names(), s.Members("z"))
	}
}

// A name that is told holds on to no bytes of one that was handed in.
func TestOrderTellsNewNames(t *testing.T) {
	b := []byte("annbobgrp")
	name := func(i int) string { return unsafe.String(&b[i], 3) }
	l := eval.Order(pol.Policy{Groups: []pol.Group{{Name: name(6), Members: []string{name(0)}}}, Rules: []pol.Rule{{From: []pol.Lit{is(name(3))}}}})
	copy(b, "xxxxxxxxx")
	if !slices.Equal(l, list("ann bob grp")) {
		t.Error(l)
	}
}
