package pol_test

import (
	"math/rand"
	"slices"
	"strings"
	"testing"

	"ostiary/api"
	"ostiary/pol"
)

func isAsTheModel(t *testing.T, s string) {
	t.Helper()
	p, at, e := pol.Parse(s)
	want, place, why := model(s)
	if !alike(p, want) || at != place || e != why {
		t.Errorf("Parse of %q: %+v, %d, %d; not %+v, %d, %d", s, p, at, e, want, place, why)
	}
}

// dice throws policies and texts.
type dice struct{ *rand.Rand }

func newDice(seed int64) dice { return dice{rand.New(rand.NewSource(seed))} }

func (d dice) one(l ...string) string { return l[d.Intn(len(l))] }

func (d dice) name() string { return d.one(goodNames...) }

func (d dice) lits() []pol.Lit {
	var l []pol.Lit
	for range d.Intn(5) {
		l = append(l, pol.Lit{Not: d.Intn(2) == 0, Name: d.name()})
	}
	return l
}

func (d dice) rule() pol.Rule {
	u := pol.Rule{Act: 1 + d.Intn(4), From: d.lits(), To: d.lits(), Proto: d.Intn(257) - 1}
	if u.Act == pol.Via {
		for range 1 + d.Intn(4) {
			u.Via = append(u.Via, 1+d.Intn(8))
		}
	}
	if d.Intn(3) > 0 {
		u.Proto, u.Ports = 6+11*d.Intn(2), true
		u.Lo = d.Intn(65536)
		u.Hi = u.Lo + d.Intn(65536-u.Lo)*d.Intn(2)
	}
	return u
}

// policy has so many groups and rules at most.
func (d dice) policy(groups, rules int) pol.Policy {
	var p pol.Policy
	for _, i := range d.Perm(16)[:d.Intn(groups+1)] {
		g := pol.Group{Name: goodNames[i]}
		for range 1 + d.Intn(16) {
			g.Members = append(g.Members, d.name())
		}
		p.Groups = append(p.Groups, g)
	}
	for range d.Intn(rules + 1) {
		p.Rules = append(p.Rules, d.rule())
	}
	return p
}

// text is words with blanks between, or with none, where that is as good.
func (d dice) text(words []string) string {
	var b strings.Builder
	last := ";"
	for _, w := range words {
		if isRun(last) && isRun(w) || last == "-" && w == ">" || d.Intn(3) == 0 {
			b.WriteString(d.one(" ", "\n", "\t", "#;\n", " \r\n"))
		}
		b.WriteString(w)
		last = w
	}
	return b.String()
}

func isRun(s string) bool { return s[0] >= 'a' && s[0] <= 'z' || s[0] >= '0' && s[0] <= '9' }

func TestTextsByChance(t *testing.T) {
	d := newDice(1)
	wrong := append([]string{"=", ",", ";", "&", "!", ":", "-", "->", "a", "g", "abcdefghi", "0", "9", "80", "256", "65536", "group", "any", "A", "01"}, reserved...)
	for range 20000 {
		words := say(d.policy(3, 4))
		isAsTheModel(t, d.text(words))
		for range 1 + d.Intn(2) {
			at := d.Intn(len(words) + 1)
			switch behind := slices.Clone(words[at:]); d.Intn(3) {
			case 0: // one more
				words = append(append(words[:at:at], d.one(wrong...)), behind...)
			case 1: // another one
				words = append(append(words[:at:at], d.one(wrong...)), behind[min(1, len(behind)):]...)
			default: // one less
				words = append(words[:at:at], behind[min(1, len(behind)):]...)
			}
		}
		isAsTheModel(t, d.text(words))
	}
	for range 20000 {
		var words []string
		for range d.Intn(12) {
			words = append(words, d.one(wrong...))
		}
		isAsTheModel(t, d.text(words))
	}
}

// All that can stand in a policy, by chance, with one token now and then that can't, and far more than there is room for.
func TestStatesByChance(t *testing.T) {
	d := newDice(2)
	for range 3000 {
		state, words := "top", []string(nil)
		for range d.Intn(700) {
			var sorts []string
			for s := range next[state] {
				sorts = append(sorts, s)
			}
			slices.Sort(sorts)
			s := d.one(sorts...)
			if more := d.one("group", ",", "&"); d.Intn(3) > 0 && next[state][more] != "" {
				s = more
			}
			state = next[state][s]
			switch s {
			case "name":
				s = d.name()
				if d.Intn(10) > 0 {
					s = string([]byte{'a' + byte(d.Intn(26)), 'a' + byte(d.Intn(26)), 'a' + byte(d.Intn(26))})
				}
			case "number":
				s = d.one("1", "2", "3", "4", "5", "6", "7", "8")
				if d.Intn(300) == 0 {
					s = d.one("0", "9", "255", "256", "65535", "65536")
				}
			}
			words = append(words, s)
		}
		isAsTheModel(t, d.text(words))
	}
}

// P13.3.

func TestBack(t *testing.T) {
	d := newDice(3)
	for range 5000 {
		p := d.policy(16, 5)
		may(t, p)
		parses(t, d.text(say(p)), p)
	}
	long := 0
	for range 200 {
		p := d.policy(16, 64)
		may(t, p)
		if s, _ := pol.Print(p); len(s) > api.MaxText {
			long++
		}
	}
	if long == 0 {
		t.Error("no text was too long")
	}
}

// A policy's text may be short enough where what is printed of it is not.
func TestBackOfTheLongest(t *testing.T) {
	dense := strings.Repeat("deny:"+strings.Repeat("a&", 3)+"abcdefgh->"+strings.Repeat("!bcdefgh&", 3)+"b;", 64)
	if len(dense) > api.MaxText {
		t.Fatal(len(dense))
	}
	p, at, e := pol.Parse(dense)
	if at != 0 || e != api.OK || len(p.Rules) != 64 {
		t.Fatal(at, e, len(p.Rules))
	}
	s, e := pol.Print(p)
	if e != api.OK || len(s) <= api.MaxText || s != modelPrint(p) {
		t.Fatal(e, len(s))
	}
	refuses(t, "^"+s, api.ErrLong)
	most := pol.Policy{Groups: make([]pol.Group, 16), Rules: make([]pol.Rule, 64)}
	for i := range most.Groups {
		most.Groups[i] = pol.Group{Name: "group00" + string(rune('a'+i)), Members: slices.Repeat([]string{"abcdefgh"}, 16)}
	}
	for i := range most.Rules {
		l := slices.Repeat([]pol.Lit{not("abcdefgh")}, 4)
		most.Rules[i] = pol.Rule{Act: pol.Via, Via: []int{8, 8, 8, 8}, From: l, To: l, Proto: 17, Ports: true, Lo: 65534, Hi: 65535}
	}
	may(t, most)
}

// The rules that hold everywhere.

// fill writes into all that a list has, and behind its end.
func fill[T any](l []T, v T) {
	for i := range l[:cap(l)] {
		l[:cap(l)][i] = v
	}
}

// fills write into one list each.
var fills = []func(p pol.Policy){
	func(p pol.Policy) { fill(p.Groups, pol.Group{Name: "no"}) },
	func(p pol.Policy) { fill(p.Groups[0].Members, "no") },
	func(p pol.Policy) { fill(p.Groups[1].Members, "no") },
	func(p pol.Policy) { fill(p.Rules, pol.Rule{Act: -7}) },
	func(p pol.Policy) { fill(p.Rules[0].From, not("no")) },
	func(p pol.Policy) { fill(p.Rules[0].To, not("no")) },
	func(p pol.Policy) { fill(p.Rules[1].Via, -7) },
	func(p pol.Policy) { fill(p.Rules[1].From, not("no")) },
	func(p pol.Policy) { fill(p.Rules[1].To, not("no")) },
}

func TestNoListIsShared(t *testing.T) {
	s, _ := pol.Print(full())
	for i, spoil := range fills {
		a, _, _ := pol.Parse(s)
		b, _, _ := pol.Parse(s)
		spoil(a)
		c, _, _ := pol.Parse(s)
		want := full()
		spoil(want)
		if !alike(a, want) || !alike(b, full()) || !alike(c, full()) {
			t.Errorf("%d: %+v, %+v, %+v", i, a, b, c)
		}
	}
}

func TestNothingHandedInIsChanged(t *testing.T) {
	p := full()
	q := plain(p)
	slices.Reverse(q.Rules)
	pol.May(p)
	pol.Print(p)
	pol.Same(p, q)
	if !alike(p, full()) {
		t.Errorf("%+v", p)
	}
}

func FuzzParse(f *testing.F) {
	f.Add("group g=a,b;allow:g->!c tcp port 80-443;via 1,2:any->any ip 6;")
	f.Fuzz(func(t *testing.T, s string) {
		isAsTheModel(t, s)
		if p, _, e := pol.Parse(s); e == api.OK {
			may(t, p)
		}
	})
}
