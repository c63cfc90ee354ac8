package pol_test

import (
	"math"
	"slices"
	"strings"
	"testing"

	"ostiary/api"
	"ostiary/pol"
)

// may fails unless a policy may be, and is what its text is parsed as.
func may(t *testing.T, p pol.Policy) {
	t.Helper()
	if !pol.May(p) {
		t.Errorf("%+v may not be", p)
		return
	}
	s, e := pol.Print(p)
	if e != api.OK || s != modelPrint(p) {
		t.Errorf("Print of %+v: %q, %d; not %q", p, s, e, modelPrint(p))
	}
	if len(s) <= api.MaxText {
		parses(t, s, p)
	} else {
		refuses(t, "^"+s, api.ErrLong)
	}
}

func mayNot(t *testing.T, p pol.Policy) {
	t.Helper()
	if pol.May(p) {
		t.Errorf("%+v may be", p)
	}
	if s, e := pol.Print(p); s != "" || e != api.ErrArg {
		t.Errorf("Print of %+v: %q, %d", p, short(s), e)
	}
}

var goodNames = []string{"a", "z", "a0", "z9", "abcdefgh", "a1234567", "groups", "allowed", "anyone", "port80", "ips", "i", "p", "an", "viaa", "tcp6", "denies"}

var badNames = append([]string{"", " ", "A", "0", "1a", "a b", "a-b", "!a", "abcdefghi", "a12345678", "ä", "a\n", " a", "a ", "a;", "a\x00", "\xff", "aB", "a_b", strings.Repeat("a", 1<<16)}, reserved...)

// full is a policy with all that there is.
func full() pol.Policy {
	return pol.Policy{
		Groups: []pol.Group{{Name: "g", Members: []string{"a", "b"}}, {Name: "h", Members: []string{"g", "c"}}},
		Rules: []pol.Rule{
			{Act: pol.Allow, From: []pol.Lit{is("g"), not("a")}, To: []pol.Lit{not("h"), is("b")}, Proto: api.Tcp, Ports: true, Lo: 80, Hi: 443},
			{Act: pol.Via, Via: []int{2, 3}, From: []pol.Lit{is("a")}, To: []pol.Lit{is("c")}, Proto: 1},
		},
	}
}

func TestMayOfLeastAndMost(t *testing.T) {
	may(t, pol.Policy{})
	may(t, full())
	may(t, pol.Policy{Groups: []pol.Group{}, Rules: []pol.Rule{{Act: 1, Proto: -1, Via: []int{}, From: []pol.Lit{}, To: []pol.Lit{}}}})
	mayNot(t, rules(pol.Rule{}))
	mayNot(t, groups(pol.Group{}))
}

func TestMayOfNames(t *testing.T) {
	puts := []func(p *pol.Policy, s string){
		func(p *pol.Policy, s string) { p.Groups[0].Name = s },
		func(p *pol.Policy, s string) { p.Groups[1].Name = s },
		func(p *pol.Policy, s string) { p.Groups[0].Members[0] = s },
		func(p *pol.Policy, s string) { p.Groups[1].Members[1] = s },
		func(p *pol.Policy, s string) { p.Rules[0].From[0].Name = s },
		func(p *pol.Policy, s string) { p.Rules[0].From[1].Name = s },
		func(p *pol.Policy, s string) { p.Rules[0].To[0].Name = s },
		func(p *pol.Policy, s string) { p.Rules[0].To[1].Name = s },
		func(p *pol.Policy, s string) { p.Rules[1].From[0].Name = s },
		func(p *pol.Policy, s string) { p.Rules[1].To[0].Name = s },
	}
	for _, put := range puts {
		for _, s := range goodNames {
			p := full()
			put(&p, s)
			may(t, p)
		}
		for _, s := range badNames {
			p := full()
			put(&p, s)
			mayNot(t, p)
		}
	}
}

func TestMayOfGroups(t *testing.T) {
	one := func(n int) pol.Group {
		return pol.Group{Name: "g" + string([]byte{'a' + byte(n%26), 'a' + byte(n/26%26)}), Members: []string{"a"}}
	}
	for n := range 40 {
		var p pol.Policy
		for i := range n {
			p.Groups = append(p.Groups, one(i))
		}
		if n <= 16 {
			may(t, p)
		} else {
			mayNot(t, p)
		}
		for i := range min(n, 16) { // no two of one name, wherever they stand
			for j := range i {
				q := plain(p)
				q.Groups = q.Groups[:min(n, 16)]
				q.Groups[i].Name = q.Groups[j].Name
				mayNot(t, q)
			}
		}
	}
	for n := range 40 {
		for at := range 2 {
			p := full()
			p.Groups[at].Members = slices.Repeat([]string{"a"}, n)
			if n >= 1 && n <= 16 {
				may(t, p)
			} else {
				mayNot(t, p)
			}
		}
	}
	may(t, groups(pol.Group{Name: "g", Members: []string{"g", "g"}}))
	mayNot(t, groups(make([]pol.Group, 1<<16)...))
	mayNot(t, groups(pol.Group{Name: "g", Members: slices.Repeat([]string{"a"}, 1<<16)}))
}

func TestMayOfManyRules(t *testing.T) {
	for n := range 80 {
		p := rules(slices.Repeat([]pol.Rule{{Act: 2, Proto: -1}}, n)...)
		if n <= 64 {
			may(t, p)
		} else {
			mayNot(t, p)
		}
		if n > 0 {
			p.Rules[n-1].Act = 0
			mayNot(t, p)
		}
	}
	mayNot(t, rules(slices.Repeat([]pol.Rule{{Act: 2, Proto: -1}}, 1<<16)...))
}

var edges = []int{math.MinInt, math.MinInt32, -65536, -256, -2, -1, 0, 1, 2, 3, 4, 5, 6, 7, 8, 9, 10, 16, 17, 18, 79, 80, 81, 254, 255, 256, 257, 262, 273, 65534, 65535, 65536, 65616, 1 << 31, 1<<32 + 1, 1<<32 + 6, math.MaxInt - 1, math.MaxInt}

func TestMayOfActs(t *testing.T) {
	for _, act := range edges {
		for _, via := range [][]int{nil, {1}, {1, 2}} {
			p := full()
			p.Rules[0].Act, p.Rules[0].Via = act, via
			if act >= 1 && act <= 3 && len(via) == 0 || act == 4 && len(via) > 0 {
				may(t, p)
			} else {
				mayNot(t, p)
			}
		}
	}
}

func TestMayOfVia(t *testing.T) {
	for n := range 20 {
		p := full()
		p.Rules[1].Via = slices.Repeat([]int{8}, n)
		if n >= 1 && n <= 4 {
			may(t, p)
		} else {
			mayNot(t, p)
		}
		for at := range min(n, 4) {
			for _, v := range edges {
				q := plain(p)
				q.Rules[1].Via = q.Rules[1].Via[:min(n, 4)]
				q.Rules[1].Via[at] = v
				if v >= 1 && v <= 8 {
					may(t, q)
				} else {
					mayNot(t, q)
				}
			}
		}
	}
}

func TestMayOfLiterals(t *testing.T) {
	for n := range 20 {
		for _, lit := range []pol.Lit{is("a"), not("a")} {
			from, to := full(), full()
			from.Rules[0].From = slices.Repeat([]pol.Lit{lit}, n)
			to.Rules[0].To = slices.Repeat([]pol.Lit{lit}, n)
			for _, p := range []pol.Policy{from, to} {
				if n <= 4 {
					may(t, p)
				} else {
					mayNot(t, p)
				}
			}
		}
	}
}

func TestMayOfProtocolsAndPorts(t *testing.T) {
	for _, proto := range edges {
		for _, ports := range []bool{false, true} {
			for _, lo := range edges {
				for _, hi := range edges {
					p := full()
					u := &p.Rules[0]
					u.Proto, u.Ports, u.Lo, u.Hi = proto, ports, lo, hi
					switch {
					case ports && (proto == 6 || proto == 17) && lo >= 0 && lo <= hi && hi <= 65535, !ports && proto >= -1 && proto <= 255 && lo == 0 && hi == 0:
						may(t, p)
					case pol.May(p):
						t.Errorf("%+v may be", p)
					}
				}
			}
			p := full()
			p.Rules[0].Proto, p.Rules[0].Ports = proto, ports
			if !ports || proto != 6 && proto != 17 {
				mayNot(t, p)
			}
		}
	}
}

// P13.2: Print.

func TestPrint(t *testing.T) {
	prints(t, pol.Policy{}, "")
	prints(t, full(), "group g = a, b;\ngroup h = g, c;\nallow: g & !a -> !h & b tcp port 80-443;\nvia 2, 3: a -> c ip 1;\n")
	prints(t, groups(pol.Group{Name: "g", Members: []string{"a"}}), "group g = a;\n")
	prints(t, groups(pol.Group{Name: "g", Members: []string{"c", "a", "a", "b"}}), "group g = c, a, a, b;\n")
	for want, u := range map[string]pol.Rule{
		"allow: any -> any;\n":                        {Act: 1, Proto: -1},
		"deny: any -> any;\n":                         {Act: 2, Proto: -1},
		"outbound: any -> any;\n":                     {Act: 3, Proto: -1},
		"via 1: any -> any;\n":                        {Act: 4, Via: []int{1}, Proto: -1},
		"via 8, 1, 8, 3: any -> any;\n":               {Act: 4, Via: []int{8, 1, 8, 3}, Proto: -1},
		"allow: a -> any;\n":                          {Act: 1, From: []pol.Lit{is("a")}, Proto: -1},
		"allow: any -> a;\n":                          {Act: 1, To: []pol.Lit{is("a")}, Proto: -1},
		"deny: !a -> !b;\n":                           {Act: 2, From: []pol.Lit{not("a")}, To: []pol.Lit{not("b")}, Proto: -1},
		"deny: a & !b & c & !d -> !a & b & !c & d;\n": {Act: 2, From: []pol.Lit{is("a"), not("b"), is("c"), not("d")}, To: []pol.Lit{not("a"), is("b"), not("c"), is("d")}, Proto: -1},
		"allow: any -> any ip 0;\n":                   {Act: 1},
		"allow: any -> any ip 5;\n":                   {Act: 1, Proto: 5},
		"allow: any -> any tcp;\n":                    {Act: 1, Proto: 6},
		"allow: any -> any ip 7;\n":                   {Act: 1, Proto: 7},
		"allow: any -> any udp;\n":                    {Act: 1, Proto: 17},
		"allow: any -> any ip 255;\n":                 {Act: 1, Proto: 255},
		"allow: any -> any tcp port 0;\n":             {Act: 1, Proto: 6, Ports: true},
		"allow: any -> any udp port 0-1;\n":           {Act: 1, Proto: 17, Ports: true, Hi: 1},
		"allow: any -> any tcp port 80;\n":            {Act: 1, Proto: 6, Ports: true, Lo: 80, Hi: 80},
		"allow: any -> any udp port 80-81;\n":         {Act: 1, Proto: 17, Ports: true, Lo: 80, Hi: 81},
		"allow: any -> any tcp port 0-65535;\n":       {Act: 1, Proto: 6, Ports: true, Hi: 65535},
		"via 1, 2: a & b -> !c udp port 65535;\n":     {Act: 4, Via: []int{1, 2}, From: []pol.Lit{is("a"), is("b")}, To: []pol.Lit{not("c")}, Proto: 17, Ports: true, Lo: 65535, Hi: 65535},
	} {
		prints(t, rules(u), want)
	}
}

// P13.2: Same.

func same(t *testing.T, a, b pol.Policy, want bool) {
	t.Helper()
	if pol.Same(a, b) != want || pol.Same(b, a) != want {
		t.Errorf("Same of %+v and %+v: %t", a, b, !want)
	}
}

// changes are such that each one makes another policy.
var changes = []func(p *pol.Policy){
	func(p *pol.Policy) { p.Groups = p.Groups[:1] },
	func(p *pol.Policy) { p.Groups = p.Groups[1:] },
	func(p *pol.Policy) { p.Groups = append(p.Groups, pol.Group{}) },
	func(p *pol.Policy) { slices.Reverse(p.Groups) },
	func(p *pol.Policy) { p.Groups = nil },
	func(p *pol.Policy) { p.Groups[0].Name = "x" },
	func(p *pol.Policy) { p.Groups[1].Name = "" },
	func(p *pol.Policy) { p.Groups[0].Members[1] = "x" },
	func(p *pol.Policy) { p.Groups[1].Members[0] = "" },
	func(p *pol.Policy) { slices.Reverse(p.Groups[0].Members) },
	func(p *pol.Policy) { p.Groups[1].Members = p.Groups[1].Members[:1] },
	func(p *pol.Policy) { p.Groups[1].Members = append(p.Groups[1].Members, "") },
	func(p *pol.Policy) { p.Groups[0].Members = nil },
	func(p *pol.Policy) { p.Rules = p.Rules[:1] },
	func(p *pol.Policy) { p.Rules = append(p.Rules, pol.Rule{}) },
	func(p *pol.Policy) { slices.Reverse(p.Rules) },
	func(p *pol.Policy) { p.Rules = nil },
	func(p *pol.Policy) { p.Rules[0].Act = 2 },
	func(p *pol.Policy) { p.Rules[1].Act = 0 },
	func(p *pol.Policy) { p.Rules[0].Via = []int{0} },
	func(p *pol.Policy) { p.Rules[1].Via[1] = 9 },
	func(p *pol.Policy) { p.Rules[1].Via = p.Rules[1].Via[:1] },
	func(p *pol.Policy) { slices.Reverse(p.Rules[1].Via) },
	func(p *pol.Policy) { p.Rules[0].From[1].Not = false },
	func(p *pol.Policy) { p.Rules[0].From[0].Name = "x" },
	func(p *pol.Policy) { p.Rules[0].From = p.Rules[0].From[:1] },
	func(p *pol.Policy) { p.Rules[0].From = append(p.Rules[0].From, pol.Lit{}) },
	func(p *pol.Policy) { p.Rules[0].To[1].Not = true },
	func(p *pol.Policy) { p.Rules[0].To[1].Name = "x" },
	func(p *pol.Policy) { p.Rules[0].To = nil },
	func(p *pol.Policy) { slices.Reverse(p.Rules[0].To) },
	func(p *pol.Policy) { p.Rules[0].From, p.Rules[0].To = p.Rules[0].To, p.Rules[0].From },
	func(p *pol.Policy) { p.Rules[0].Proto = 17 },
	func(p *pol.Policy) { p.Rules[1].Proto = -1 },
	func(p *pol.Policy) { p.Rules[0].Ports = false },
	func(p *pol.Policy) { p.Rules[1].Ports = true },
	func(p *pol.Policy) { p.Rules[0].Lo++ },
	func(p *pol.Policy) { p.Rules[0].Hi-- },
	func(p *pol.Policy) { p.Rules[1].Lo = -1 },
	func(p *pol.Policy) { p.Rules[1].Hi = 1 },
}

func TestSame(t *testing.T) {
	list := []pol.Policy{{}, full()}
	for i, change := range changes {
		p := full()
		change(&p)
		if alike(p, full()) {
			t.Error("change", i, "is none")
		}
		list = append(list, p)
	}
	for _, a := range list {
		for _, b := range list {
			same(t, a, b, alike(a, b))
		}
		same(t, a, plain(a), true)
	}
	same(t, pol.Policy{}, pol.Policy{Groups: []pol.Group{}, Rules: []pol.Rule{}}, true)
	same(t, groups(pol.Group{}), groups(pol.Group{Members: []string{}}), true)
	same(t, rules(pol.Rule{}), rules(pol.Rule{Via: []int{}, From: []pol.Lit{}, To: []pol.Lit{}}), true)
	same(t, groups(pol.Group{}), rules(pol.Rule{}), false)
}
