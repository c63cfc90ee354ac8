package pol_test

import (
	"reflect"
	"strings"
	"testing"

	"ostiary/api"
	"ostiary/pol"
)

// alike holds two against one another without Same, which is tested itself.
func alike(a, b pol.Policy) bool { return reflect.DeepEqual(plain(a), plain(b)) }

// plain makes of each empty list none.
func plain(p pol.Policy) pol.Policy {
	var q pol.Policy
	for _, g := range p.Groups {
		q.Groups = append(q.Groups, pol.Group{Name: g.Name, Members: append([]string(nil), g.Members...)})
	}
	for _, u := range p.Rules {
		u.Via = append([]int(nil), u.Via...)
		u.From = append([]pol.Lit(nil), u.From...)
		u.To = append([]pol.Lit(nil), u.To...)
		q.Rules = append(q.Rules, u)
	}
	return q
}

func is(name string) pol.Lit { return pol.Lit{Name: name} }

func not(name string) pol.Lit { return pol.Lit{Not: true, Name: name} }

func groups(l ...pol.Group) pol.Policy { return pol.Policy{Groups: l} }

func rules(l ...pol.Rule) pol.Policy { return pol.Policy{Rules: l} }

// short tells the beginning of a text.
func short(s string) string {
	if len(s) > 200 {
		return s[:200] + ".."
	}
	return s
}

func parses(t *testing.T, s string, want pol.Policy) {
	t.Helper()
	if p, at, e := pol.Parse(s); !alike(p, want) || at != 0 || e != api.OK {
		t.Errorf("Parse of %q: %+v, %d, %d; not %+v", short(s), p, at, e, want)
	}
}

// good fails unless a text is a policy's.
func good(t *testing.T, s string) {
	t.Helper()
	if _, at, e := pol.Parse(s); at != 0 || e != api.OK {
		t.Errorf("Parse of %q: %d, %d", short(s), at, e)
	}
}

// refuses takes texts with a ^ ahead of what can't stand there.
func refuses(t *testing.T, marked string, want api.Errno) {
	t.Helper()
	place := strings.Index(marked, "^")
	s := strings.Replace(marked, "^", "", 1)
	if p, at, e := pol.Parse(s); !alike(p, pol.Policy{}) || at != place || e != want {
		t.Errorf("Parse of %q: %+v, %d, %d; not %d, %d", short(s), p, at, e, place, want)
	}
}

func prints(t *testing.T, p pol.Policy, want string) {
	t.Helper()
	if s, e := pol.Print(p); s != want || e != api.OK {
		t.Errorf("Print of %+v: %q, %d; not %q", p, s, e, want)
	}
}

func TestExample(t *testing.T) {
	p, at, e := pol.Parse("group g=a,b;allow:g->!c tcp port 80;")
	if at != 0 || e != api.OK {
		t.Fatal(at, e)
	}
	prints(t, p, "group g = a, b;\nallow: g -> !c tcp port 80;\n")
	prints(t, groups(p.Groups...), "group g = a, b;\n")
	prints(t, rules(p.Rules...), "allow: g -> !c tcp port 80;\n")
}

func TestActsAreNumbered(t *testing.T) {
	if pol.Allow != 1 || pol.Deny != 2 || pol.Outbound != 3 || pol.Via != 4 || pol.AnyProto != -1 {
		t.Error(pol.Allow, pol.Deny, pol.Outbound, pol.Via, pol.AnyProto)
	}
}

// P13.1: texts that are a policy's.

func TestParseOfNothing(t *testing.T) {
	for _, s := range []string{"", " ", "\n", "# nothing\n", "\t\r\n #;\n#allow"} {
		parses(t, s, pol.Policy{})
	}
}

func TestParseOfGroups(t *testing.T) {
	parses(t, "group g=a;", groups(pol.Group{Name: "g", Members: []string{"a"}}))
	parses(t, "group g = b, a, b;", groups(pol.Group{Name: "g", Members: []string{"b", "a", "b"}}))
	parses(t, "group b=a;group a=b,a;group c=c;", groups(pol.Group{Name: "b", Members: []string{"a"}}, pol.Group{Name: "a", Members: []string{"b", "a"}}, pol.Group{Name: "c", Members: []string{"c"}}))
	parses(t, "group a1234567=z9999999;", groups(pol.Group{Name: "a1234567", Members: []string{"z9999999"}}))
	parses(t, " group#x\ng #=\n=\r\n a\t,#;\nb\n;\n", groups(pol.Group{Name: "g", Members: []string{"a", "b"}}))
}

func TestParseOfActs(t *testing.T) {
	none := pol.Rule{Proto: -1}
	for i, act := range []string{"allow", "deny", "outbound"} {
		u := none
		u.Act = i + 1
		parses(t, act+":any->any;", rules(u))
		refuses(t, act+"^", api.ErrSyntax)
		refuses(t, act+" ^1: any->any;", api.ErrSyntax)
	}
	for text, l := range map[string][]int{"1": {1}, "8": {8}, "3,2": {3, 2}, "1,1,1": {1, 1, 1}, "8 , 7 , 6 , 5": {8, 7, 6, 5}} {
		u := none
		u.Act, u.Via = pol.Via, l
		parses(t, "via "+text+": any -> any;", rules(u))
	}
	good(t, "via 1: a -> b ip 1; deny: a -> b;")
}

func TestParseOfWho(t *testing.T) {
	for text, l := range map[string][]pol.Lit{"any": nil, "a": {is("a")}, "!a": {not("a")}, "! a": {not("a")}, "a&a": {is("a"), is("a")}, "a&!a": {is("a"), not("a")},
		"!a & !b & !c & !d": {not("a"), not("b"), not("c"), not("d")}, "a1234567 & b & ! c & d": {is("a1234567"), is("b"), not("c"), is("d")}} {
		parses(t, "allow:"+text+"->any;", rules(pol.Rule{Act: 1, Proto: -1, From: l}))
		parses(t, "allow:any->"+text+";", rules(pol.Rule{Act: 1, Proto: -1, To: l}))
		parses(t, "deny:"+text+"->"+text+" udp;", rules(pol.Rule{Act: 2, Proto: 17, From: l, To: l}))
	}
}

func TestParseOfProtocols(t *testing.T) {
	base := pol.Rule{Act: pol.Deny, Proto: -1, From: []pol.Lit{is("a")}, To: []pol.Lit{is("b")}}
	for text, put := range map[string]func(u *pol.Rule){
		"":                        func(u *pol.Rule) {},
		"tcp":                     func(u *pol.Rule) { u.Proto = 6 },
		"udp":                     func(u *pol.Rule) { u.Proto = 17 },
		"ip 0":                    func(u *pol.Rule) { u.Proto = 0 },
		"ip 1":                    func(u *pol.Rule) { u.Proto = 1 },
		"ip 6":                    func(u *pol.Rule) { u.Proto = 6 },
		"ip 17":                   func(u *pol.Rule) { u.Proto = 17 },
		"ip 255":                  func(u *pol.Rule) { u.Proto = 255 },
		"tcp port 0":              func(u *pol.Rule) { u.Proto, u.Ports = 6, true },
		"udp port 0":              func(u *pol.Rule) { u.Proto, u.Ports = 17, true },
		"tcp port 0-0":            func(u *pol.Rule) { u.Proto, u.Ports = 6, true },
		"tcp port 80":             func(u *pol.Rule) { u.Proto, u.Ports, u.Lo, u.Hi = 6, true, 80, 80 },
		"udp port 80 - 80":        func(u *pol.Rule) { u.Proto, u.Ports, u.Lo, u.Hi = 17, true, 80, 80 },
		"tcp port 80-81":          func(u *pol.Rule) { u.Proto, u.Ports, u.Lo, u.Hi = 6, true, 80, 81 },
		"udp port 0 -65535":       func(u *pol.Rule) { u.Proto, u.Ports, u.Lo, u.Hi = 17, true, 0, 65535 },
		"tcp port 65535":          func(u *pol.Rule) { u.Proto, u.Ports, u.Lo, u.Hi = 6, true, 65535, 65535 },
		"tcp port 65535- 65535":   func(u *pol.Rule) { u.Proto, u.Ports, u.Lo, u.Hi = 6, true, 65535, 65535 },
		"tcp\nport#\n1\n-\n2#;\n": func(u *pol.Rule) { u.Proto, u.Ports, u.Lo, u.Hi = 6, true, 1, 2 },
	} {
		u := base
		put(&u)
		parses(t, "deny: a -> b "+text+";", rules(u))
		u.To = nil
		parses(t, "deny: a -> any "+text+";", rules(u))
	}
}

// Groups and rules stand in any order; each sort keeps its own.
func TestParseInAnyOrder(t *testing.T) {
	p := pol.Policy{
		Groups: []pol.Group{{Name: "g", Members: []string{"a"}}, {Name: "f", Members: []string{"g", "b"}}},
		Rules:  []pol.Rule{{Act: 2, Proto: 1}, {Act: 1, Proto: -1, From: []pol.Lit{is("g")}}},
	}
	parses(t, "group g=a;group f=g,b;deny:any->any ip 1;allow:g->any;", p)
	parses(t, "deny:any->any ip 1;allow:g->any;group g=a;group f=g,b;", p)
	parses(t, "deny:any->any ip 1;group g=a;allow:g->any;group f=g,b;", p)
	parses(t, "group g=a;deny:any->any ip 1;group f=g,b;allow:g->any;", p)
}

// P13.1: errors.

// What layer 12 refuses counts ahead of all that stands ahead of it.
func TestParseOfNoTokens(t *testing.T) {
	refuses(t, "^_", api.ErrSyntax)
	refuses(t, "allow allow ^A", api.ErrSyntax)
	refuses(t, "via 9: a -> ^01;", api.ErrSyntax)
	refuses(t, "group any = a; ^1234567", api.ErrLong)
	refuses(t, "; ^abcdefghijklmnopq", api.ErrLong)
	refuses(t, "^"+strings.Repeat(" ", 4097), api.ErrLong)
	refuses(t, "^;"+strings.Repeat(" ", 4096), api.ErrLong)
	refuses(t, "^;"+strings.Repeat(" ", 4095), api.ErrSyntax)
	refuses(t, "^"+strings.Repeat("allow:any->any;", 1000), api.ErrLong)
	good(t, strings.Repeat(" ", 4081)+"allow:any->any;")
}

// Behind each token, what can't stand there.
func TestParseOfWrongTokens(t *testing.T) {
	whole := []string{
		"group g = a , b , c ;",
		"allow : a & ! b -> any tcp port 80 - 443 ;",
		"deny : any -> ! a & b udp port 1 ;",
		"outbound : a -> b ip 6 ;",
		"via 1 , 2 : ! a -> any ;",
	}
	others := append([]string{"=", ",", ";", "&", "!", ":", "-", "->", "a", "abcdefgh", "abcdefghi", "abcdefghijklmnop", "0", "1", "8", "9", "255", "256", "65535", "65536", "999999"}, reserved...)
	for _, s := range whole {
		good(t, s)
		words := strings.Split(s, " ")
		for n := range words {
			ahead := strings.Join(words[:n], " ")
			if n > 0 {
				ahead += " "
				refuses(t, ahead+"^", api.ErrSyntax)
				refuses(t, ahead+"# and no more^", api.ErrSyntax)
			}
			for _, o := range others {
				isAsTheModel(t, ahead+o)
				isAsTheModel(t, ahead+o+" "+strings.Join(words[n:], " "))
				isAsTheModel(t, ahead+o+" "+strings.Join(words[n+1:], " "))
			}
			isAsTheModel(t, ahead+strings.Join(words[n+1:], " "))
		}
	}
}

func TestParseErrSyntax(t *testing.T) {
	for _, s := range []string{
		"^;", "^a", "^1", "^=", "^any", "^port", "^ip", "^!", "^groups", "^999999", "^abcdefghijklmnop",
		"group^", "group ^= a;", "group ^1 = a;", "group ^any = a;", "group ^group = a;", "group ^tcp = a;", "group ^abcdefghi = a;", "group ^;",
		"group g^", "group g ^a", "group g ^;", "group g ^: a;", "group g =^", "group g = ^;", "group g = ^,", "group g = ^any;", "group g = ^!a;", "group g = ^1;", "group g = ^abcdefghi;",
		"group g = a^", "group g = a ^b;", "group g = a ^& b;", "group g = a,^", "group g = a, ^;", "group g = a, ^, b;", "group g = a, ^ip;", "group g = a; ^;", "group g = a; ^g",
		"group g = a ^group h = b;", "group g = a ^allow: any -> any;",
		"allow^", "allow ^any -> any;", "allow ^;", "allow ^1: any -> any;", "allow:^", "allow: ^;", "allow: ^-> any;", "allow: ^, a -> any;", "allow: ^tcp -> any;", "allow: ^1 -> any;",
		"allow: any^", "allow: any ^a -> any;", "allow: any ^& a -> any;", "allow: a & ^any -> any;", "allow: !^", "allow: ! ^any -> any;", "allow: ! ^! a -> any;", "allow: !a ^!b -> any;", "allow: a &^", "allow: a & ^-> any;", "allow: a & ^& b -> any;",
		"allow: a ^, b -> any;", "allow: a ^- any;", "allow: a ^;", "allow: a ^any;", "allow: a ->^", "allow: a -> ^;", "allow: a -> ^-> b;", "allow: a -> ^tcp;", "allow: abcdefgh -> ^abcdefghi;",
		"allow: a -> any^", "allow: a -> any ^& b;", "allow: a -> any ^b;", "allow: a -> b &^", "allow: a -> b & ^;", "allow: a -> b & ^any;", "allow: a -> b ^allow: any -> any;", "allow: a -> b ^, c;", "allow: a -> b ^-> c;",
		"allow: a -> b tcp^", "allow: a -> b tcp ^udp;", "allow: a -> b tcp ^80;", "allow: a -> b tcp ^ip 6;", "allow: a -> b ^port 80;", "allow: a -> b ^6;", "allow: a -> b ^- 6;",
		"allow: a -> b ip^", "allow: a -> b ip ^;", "allow: a -> b ip ^tcp;", "allow: a -> b ip ^a;", "allow: a -> b ip 6^", "allow: a -> b ip 6 ^port 80;", "allow: a -> b ip 17 ^port 80;", "allow: a -> b ip 6 ^7;", "allow: a -> b ip 6 ^- 7;", "allow: a -> b ip 6 ^udp;",
		"allow: a -> b udp port^", "allow: a -> b udp port ^;", "allow: a -> b udp port ^a;", "allow: a -> b udp port ^- 80;", "allow: a -> b udp port 80^", "allow: a -> b udp port 80 ^81;", "allow: a -> b udp port 80 ^, 81;", "allow: a -> b udp port 80 ^port 81;", "allow: a -> b udp port 80 ^-> 81;",
		"allow: a -> b udp port 80 -^", "allow: a -> b udp port 80 - ^;", "allow: a -> b udp port 80 - ^a;", "allow: a -> b udp port 80 - ^- 81;", "allow: a -> b udp port 80-81^", "allow: a -> b udp port 80-81 ^- 82;", "allow: a -> b udp port 80-81 ^82;", "allow: a -> b udp port 80-81 ^tcp;",
		"allow: a -> b; ^;", "allow: a -> b; ^a", "allow: a -> b; ^: a -> b;",
		"via^", "via ^: any -> any;", "via ^a: any -> any;", "via ^;", "via 1^", "via 1 ^2: any -> any;", "via 1,^", "via 1, ^: any -> any;", "via 1, ^, 2: any -> any;", "via 1 ^any -> any;", "via 1 ^;", "via 1 ^- 2: any -> any;", "via 1, ^a: any -> any;", "via 1:^",
	} {
		refuses(t, s, api.ErrSyntax)
	}
}

func TestParseErrRange(t *testing.T) {
	for _, s := range []string{
		"via ^0: any -> any;", "via ^9: any -> any;", "via 1, ^0: any -> any;", "via 1,2,3,^9: any -> any;", "via 8,^10", "via ^999999", "via ^256: any -> any;", "via ^65537",
		"allow: any -> any ip ^256;", "deny: a -> b ip ^999999", "deny: a -> b ip ^65542;", "deny: a -> b ip ^1000",
		"allow: any -> any tcp port ^65536;", "allow: any -> any udp port ^65536-65537;", "allow: any -> any tcp port ^999999", "allow: any -> any udp port ^131072",
		"allow: any -> any tcp port 0-^65536;", "allow: any -> any udp port 80-^999999", "allow: any -> any tcp port 65535-^65536",
		"allow: any -> any tcp port 80-^79;", "allow: any -> any udp port 1-^0;", "allow: any -> any tcp port 65535-^65534", "allow: any -> any tcp port 443-^80", "allow: any -> any tcp port 65535-^0",
	} {
		refuses(t, s, api.ErrRange)
	}
	for _, s := range []string{"^9: any", "allow ^0", "allow: a -> b ^999999", "group ^999999", "allow: a -> b tcp ^65536", "via 1 ^9", "allow: a -> b tcp port 80 ^65536;", "allow: a -> b ip 6 ^256;"} { // no number can stand there, whatever it is
		refuses(t, s, api.ErrSyntax)
	}
}

func TestParseErrThere(t *testing.T) {
	for _, s := range []string{"group a = b; group ^a = b;", "group a = b; group ^a", "group a = a; group b = a; group ^a = c;", "group a = b; group b = c; group ^b = a;", "group a = b; allow: any -> any; group ^a = b;", "group abcdefgh = b; group ^abcdefgh = b;"} {
		refuses(t, s, api.ErrThere)
	}
	good(t, "group a = a, b, a; group b = a, b; allow: a & !a -> b & b;") // only a group's own name is asked
	good(t, "group a = b; group aa = b; group b = a;")
	refuses(t, "group a = b; ^a", api.ErrSyntax)
	refuses(t, "group a = b; group b ^a", api.ErrSyntax)
}

// many is parts with a sign between; of each # a number is made.
func many(n int, part, sign string) string {
	var l []string
	for i := range n {
		l = append(l, strings.ReplaceAll(part, "#", string([]byte{'a' + byte(i/10), '0' + byte(i%10)})))
	}
	return strings.Join(l, sign)
}

func TestParseErrFull(t *testing.T) {
	good(t, many(16, "group #=a;", ""))
	refuses(t, many(16, "group #=a;", "")+"^group z=a;", api.ErrFull)
	refuses(t, many(16, "group #=a;", "")+"^group", api.ErrFull)
	refuses(t, many(16, "group #=a;", "")+"^group a0=a;", api.ErrFull)
	refuses(t, many(16, "group #=a;", "")+"allow:any->any; ^group any", api.ErrFull)
	refuses(t, many(16, "group #=a;", "")+"^groups", api.ErrSyntax)
	good(t, many(64, "deny:any->#;", ""))
	for _, act := range reserved[1:5] {
		refuses(t, many(64, "deny:any->#;", "")+"^"+act, api.ErrFull)
		refuses(t, many(64, "via 1:#->any;", "")+"group a=b; ^"+act+" 9", api.ErrFull)
	}
	refuses(t, many(64, "deny:any->#;", "")+"^any", api.ErrSyntax)
	good(t, many(64, "deny:any->#;", "")+many(16, "group #=a;", ""))

	good(t, "group g="+many(16, "#", ",")+";")
	good(t, "group g="+many(16, "a", ",")+";group h="+many(16, "a", ",")+";")
	refuses(t, "group g="+many(16, "#", ",")+",^z;", api.ErrFull)
	refuses(t, "group g="+many(16, "a", ",")+",^a", api.ErrFull)
	refuses(t, "group g="+many(16, "#", ",")+",^;", api.ErrSyntax)
	refuses(t, "group g="+many(16, "#", ",")+",^any;", api.ErrSyntax)
	refuses(t, "group g="+many(16, "#", ",")+",^abcdefghi;", api.ErrSyntax)
	refuses(t, "group g="+many(16, "#", ",")+",^7;", api.ErrSyntax)
	refuses(t, "group g="+many(16, "#", ",")+",^!z;", api.ErrSyntax)
	refuses(t, "group g="+many(16, "#", ",")+",^", api.ErrSyntax)

	for _, format := range []string{"allow:@->any;", "allow:any->@;"} {
		at, behind, _ := strings.Cut(format, "@")
		for _, part := range []string{"#", "!#"} {
			good(t, at+many(4, part, "&")+behind)
			refuses(t, at+many(4, part, "&")+"&^e"+behind, api.ErrFull)
			refuses(t, at+many(4, part, "&")+"&^!e"+behind, api.ErrFull)
			refuses(t, at+many(4, part, "&")+"&^!", api.ErrFull)
			refuses(t, at+many(4, part, "&")+"&^!any"+behind, api.ErrFull)
			refuses(t, at+many(4, part, "&")+"&^any"+behind, api.ErrSyntax)
			refuses(t, at+many(4, part, "&")+"&^"+behind, api.ErrSyntax)
			refuses(t, at+many(4, part, "&")+"&^&", api.ErrSyntax)
			refuses(t, at+many(4, part, "&")+"&^abcdefghi", api.ErrSyntax)
			refuses(t, at+many(4, part, "&")+"&^5", api.ErrSyntax)
		}
	}
	good(t, "allow:"+many(4, "!#", "&")+"->"+many(4, "!#", "&")+";")

	good(t, "via 1,2,3,4:any->any;")
	for _, n := range []string{"0", "1", "5", "8", "9", "999999"} { // too many counts ahead of too great
		refuses(t, "via 1,2,3,4,^"+n+":any->any;", api.ErrFull)
	}
	refuses(t, "via 1,2,3,4,^:any->any;", api.ErrSyntax)
	refuses(t, "via 1,2,3,4,^a:any->any;", api.ErrSyntax)
}

// The first token that can't stand there counts, whatever follows.
func TestParseOfTheFirstError(t *testing.T) {
	refuses(t, "via ^9,0,1,2,3", api.ErrRange)
	refuses(t, "group a=b; group ^a=any;", api.ErrThere)
	refuses(t, "group a=^any; group a=b;", api.ErrSyntax)
	refuses(t, "allow:any->any tcp port ^65536-0;", api.ErrRange)
	refuses(t, "allow:any->any ip ^256 port 7;", api.ErrRange)
	refuses(t, "allow:a&b&c&d&^!->e&f&g&h&i;", api.ErrFull)
}
