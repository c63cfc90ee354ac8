package view_test

import (
	"math"
	"slices"
	"testing"

	"ostiary/api"
	"ostiary/view"
)

func at(sw, port int) api.Place { return api.Place{Sw: sw, Port: port} }

func link(a, b api.Place) api.Link { return api.Link{A: a, B: b} }

// all are all ports that may be, in order.
func all() []api.Place {
	var l []api.Place
	for sw := 1; sw <= 8; sw++ {
		for n := 1; n <= 8; n++ {
			l = append(l, at(sw, n))
		}
	}
	return l
}

// bad may not be: many of them would be another port's, if only a sum of both numbers, or some bits, were looked at.
func bad() []api.Place {
	l := []api.Place{{}, at(2, -7), at(3, -15), at(0, 9), at(0, 17), at(-1, 25), at(1, 64)}
	for _, n := range []int{math.MinInt, -1 << 61, -1 << 32, -8, -1, 0, 9, 10, 16, 64, 65, 256 + 1, 1<<32 + 1, 1<<61 + 1, math.MaxInt} {
		l = append(l, at(n, 1), at(n, 8), at(1, n), at(8, n), at(n, n), at(2, n))
	}
	return l
}

// noSwitches are numbers that no switch has.
func noSwitches() []int {
	return []int{math.MinInt, -1 << 32, -8, -1, 0, 9, 10, 16, 256 + 1, 1<<32 + 1, math.MaxInt}
}

func same(t *testing.T, what string, got []api.Link, want ...api.Link) {
	t.Helper()
	if !slices.Equal(got, want) {
		t.Errorf("%s: %v, not %v", what, got, want)
	}
}

func ports(t *testing.T, v *view.View, sw, up int, lost ...api.Link) {
	t.Helper()
	same(t, "Ports", v.Ports(sw, up), lost...)
}

func drop(t *testing.T, v *view.View, sw int, lost ...api.Link) {
	t.Helper()
	same(t, "Drop", v.Drop(sw), lost...)
}

func age(t *testing.T, v *view.View, now, most int64, lost ...api.Link) {
	t.Helper()
	same(t, "Age", v.Age(now, most), lost...)
}

// learns is of a link that was not there.
func learns(t *testing.T, v *view.View, from, to api.Place, now int64, lost ...api.Link) {
	t.Helper()
	l, ok := v.Learn(from, to, now)
	if !ok {
		t.Errorf("Learn(%v, %v): false", from, to)
	}
	same(t, "Learn", l, lost...)
}

// learnsNothing is of one that is there, or can't be.
func learnsNothing(t *testing.T, v *view.View, from, to api.Place, now int64) {
	t.Helper()
	if l, ok := v.Learn(from, to, now); ok || len(l) != 0 {
		t.Errorf("Learn(%v, %v): %v, %t", from, to, l, ok)
	}
}

// has fails unless just these switches are known, with these ports up and these links, and each call that asks says so.
func has(t *testing.T, v *view.View, up map[int]int, links ...api.Link) {
	t.Helper()
	same(t, "Links", v.Links(), links...)
	var known []int
	for sw := 1; sw <= 8; sw++ {
		if _, ok := up[sw]; ok {
			known = append(known, sw)
		}
	}
	if got := v.Switches(); !slices.Equal(got, known) {
		t.Errorf("Switches: %v, not %v", got, known)
	}
	ends := map[api.Place]int{}
	for _, l := range links {
		ends[l.A]++
		ends[l.B]++
	}
	for sw := -2; sw <= 11; sw++ {
		for k := -20; k <= 20; k++ {
			p := at(sw, k)
			want := k >= 1 && k <= 8 && up[sw]&(1<<(k-1)) != 0
			if v.Up(p) != want || v.Edge(p) != (want && ends[p] == 0) {
				t.Errorf("%v: Up %t, Edge %t; it should be %t, of %d links", p, v.Up(p), v.Edge(p), want, ends[p])
			}
			if n := ends[p]; n > 1 || n == 1 && !want { // P21.4
				t.Errorf("%v is the end of %d links, up is %t", p, n, want)
			}
		}
	}
}

// known is a view of some switches, from 1 on, with all their ports up; and what has wants of it.
func known(t *testing.T, n int) (*view.View, map[int]int) {
	t.Helper()
	v, up := view.New(), map[int]int{}
	for sw := 1; sw <= n; sw++ {
		ports(t, v, sw, 255)
		up[sw] = 255
	}
	return v, up
}

func TestExample(t *testing.T) {
	v := view.New()
	ports(t, v, 1, 3)
	ports(t, v, 2, 1)
	learns(t, v, at(2, 1), at(1, 2), 5)
	has(t, v, map[int]int{1: 3, 2: 1}, link(at(1, 2), at(2, 1)))
	if !v.Edge(at(1, 1)) {
		t.Error("Edge")
	}
}

// Of a nil view.
func TestNilView(t *testing.T) {
	var v *view.View
	for _, sw := range append(noSwitches(), 1, 8) {
		ports(t, v, sw, 255)
		ports(t, v, sw, 1)
		drop(t, v, sw)
	}
	for _, p := range append(bad(), all()...) {
		learnsNothing(t, v, p, at(1, 1), 5)
		learnsNothing(t, v, at(1, 2), p, 5)
		if v.Up(p) || v.Edge(p) {
			t.Errorf("%v", p)
		}
	}
	age(t, v, 100, 5)
	has(t, v, nil)
}

func TestNew(t *testing.T) {
	v := view.New()
	for _, p := range all() {
		learnsNothing(t, v, p, at(1, 1), 5) // nothing is up yet
	}
	age(t, v, 100, -1)
	drop(t, v, 1)
	has(t, v, nil)
}

// P21.1.

func TestPorts(t *testing.T) {
	for sw := 1; sw <= 8; sw++ {
		v := view.New()
		for up := 255; up >= 0; up-- {
			ports(t, v, sw, up)
			has(t, v, map[int]int{sw: up})
		}
	}
	v, up := known(t, 8)
	has(t, v, up)
	ports(t, v, 5, 0) // it is known still
	up[5] = 0
	ports(t, v, 8, 128)
	up[8] = 128
	has(t, v, up)
}

func TestPortsOfNone(t *testing.T) {
	v, up := known(t, 8)
	learns(t, v, at(1, 1), at(8, 8), 5)
	l := link(at(1, 1), at(8, 8))
	for _, sw := range noSwitches() {
		for _, n := range []int{0, 1, 255} {
			ports(t, v, sw, n)
		}
	}
	for _, n := range []int{math.MinInt, -1 << 32, -256, -255, -1, 256, 257, 511, 512, 1 << 32, 1<<32 + 255, math.MaxInt} {
		ports(t, v, 1, n)
		ports(t, v, 8, n)
		has(t, view.New(), nil)
	}
	has(t, v, up, l)
	n := view.New()
	for _, sw := range noSwitches() {
		ports(t, n, sw, 255)
	}
	ports(t, n, 1, 256) // a switch does not come to be known by it
	ports(t, n, 2, -1)
	has(t, n, nil)
}

func TestPortsLose(t *testing.T) {
	links := []api.Link{link(at(1, 2), at(3, 1)), link(at(2, 1), at(3, 8)), link(at(3, 3), at(3, 5)), link(at(3, 7), at(4, 1)), link(at(4, 2), at(5, 2))}
	for up := range 256 {
		v, want := known(t, 5)
		for i := range links {
			l := links[(i+up)%len(links)]
			learns(t, v, l.B, l.A, 5)
		}
		var lost, left []api.Link
		want[3] = up
		for _, l := range links {
			gone := false
			for _, p := range []api.Place{l.A, l.B} {
				gone = gone || p.Sw == 3 && up&(1<<(p.Port-1)) == 0
			}
			if gone {
				lost = append(lost, l)
			} else {
				left = append(left, l)
			}
		}
		ports(t, v, 3, up, lost...)
		has(t, v, want, left...)
		ports(t, v, 3, up)
		ports(t, v, 3, 255) // what was lost does not come again with its port
		want[3] = 255
		has(t, v, want, left...)
	}
}

func TestDrop(t *testing.T) {
	v, up := known(t, 4)
	learns(t, v, at(4, 1), at(2, 2), 5)
	learns(t, v, at(2, 3), at(1, 8), 5)
	learns(t, v, at(2, 8), at(2, 1), 5)
	learns(t, v, at(1, 1), at(3, 3), 5)
	drop(t, v, 2, link(at(1, 8), at(2, 3)), link(at(2, 1), at(2, 8)), link(at(2, 2), at(4, 1)))
	delete(up, 2)
	has(t, v, up, link(at(1, 1), at(3, 3)))
	drop(t, v, 2)
	learnsNothing(t, v, at(2, 3), at(1, 8), 6)
	ports(t, v, 2, 4) // it may come again, as it is then
	up[2] = 4
	has(t, v, up, link(at(1, 1), at(3, 3)))
	learns(t, v, at(2, 3), at(1, 8), 6)
	has(t, v, up, link(at(1, 1), at(3, 3)), link(at(1, 8), at(2, 3)))
	drop(t, v, 4)
	delete(up, 4)
	drop(t, v, 3, link(at(1, 1), at(3, 3)))
	delete(up, 3)
	drop(t, v, 1, link(at(1, 8), at(2, 3)))
	delete(up, 1)
	has(t, v, up)
	drop(t, v, 2)
	has(t, v, nil)
}

func TestDropNone(t *testing.T) {
	v, up := known(t, 8)
	learns(t, v, at(1, 1), at(8, 8), 5)
	for _, sw := range noSwitches() {
		drop(t, v, sw)
	}
	has(t, v, up, link(at(1, 1), at(8, 8)))
}

// P21.2.

// Each two ports, both ways round.
func TestLearn(t *testing.T) {
	for i, a := range all() {
		for j, b := range all() {
			v, _ := known(t, 8)
			if i == j {
				learnsNothing(t, v, a, b, 5)
				same(t, "Links", v.Links())
				continue
			}
			want := link(a, b)
			if j < i {
				want = link(b, a)
			}
			learns(t, v, a, b, 5)
			same(t, "Links", v.Links(), want)
			if v.Edge(a) || v.Edge(b) || !v.Up(a) || !v.Up(b) {
				t.Errorf("%v, %v: Edge", a, b)
			}
			learnsNothing(t, v, a, b, 6) // it is there
			learnsNothing(t, v, b, a, 6)
			same(t, "Links", v.Links(), want)
		}
	}
}

func TestLearnWhatIsNotUp(t *testing.T) {
	v := view.New()
	up := map[int]int{1: 5, 2: 128, 4: 0}
	for sw, n := range up {
		ports(t, v, sw, n)
	}
	learns(t, v, at(1, 3), at(2, 8), 5)
	l := link(at(1, 3), at(2, 8))
	for _, p := range []api.Place{at(1, 2), at(1, 4), at(1, 8), at(2, 1), at(2, 7), at(3, 1), at(4, 1), at(8, 8)} {
		learnsNothing(t, v, p, at(1, 1), 6)
		learnsNothing(t, v, at(1, 1), p, 6)
		learnsNothing(t, v, p, at(1, 3), 6) // nor is the link lost that ends there
		learnsNothing(t, v, at(2, 8), p, 6)
		learnsNothing(t, v, p, p, 6)
	}
	for _, p := range all() {
		learnsNothing(t, v, p, p, 6)
	}
	has(t, v, up, l)
	v, up = known(t, 8)
	learns(t, v, at(1, 1), at(8, 8), 5)
	for _, p := range bad() {
		learnsNothing(t, v, p, at(1, 1), 6)
		learnsNothing(t, v, at(8, 8), p, 6)
		learnsNothing(t, v, p, p, 6)
		if v.Up(p) || v.Edge(p) {
			t.Errorf("%v", p)
		}
	}
	has(t, v, up, link(at(1, 1), at(8, 8)))
}

func TestLearnLoses(t *testing.T) {
	v, up := known(t, 4)
	learns(t, v, at(1, 1), at(2, 1), 5)
	learns(t, v, at(3, 1), at(4, 1), 5)
	learns(t, v, at(2, 2), at(3, 2), 5)
	x, y, z := link(at(1, 1), at(2, 1)), link(at(2, 2), at(3, 2)), link(at(3, 1), at(4, 1))
	has(t, v, up, x, y, z)
	learns(t, v, at(4, 1), at(2, 1), 6, x, z) // one is lost at each end, in order
	w := link(at(2, 1), at(4, 1))
	has(t, v, up, w, y)
	learns(t, v, at(1, 1), at(2, 2), 7, y) // the second port's
	has(t, v, up, link(at(1, 1), at(2, 2)), w)
	learns(t, v, at(1, 1), at(1, 2), 8, link(at(1, 1), at(2, 2))) // the first one's, as its first
	has(t, v, up, link(at(1, 1), at(1, 2)), w)
	learns(t, v, at(4, 1), at(4, 8), 8, w) // as its second
	has(t, v, up, link(at(1, 1), at(1, 2)), link(at(4, 1), at(4, 8)))
	learns(t, v, at(1, 2), at(1, 3), 9, link(at(1, 1), at(1, 2)))
	learns(t, v, at(4, 2), at(4, 1), 9, link(at(4, 1), at(4, 8))) // with the same first port
	has(t, v, up, link(at(1, 2), at(1, 3)), link(at(4, 1), at(4, 2)))
}

// All ports are taken, and each two of them learned anew.
func TestLearnAll(t *testing.T) {
	for i := range all() {
		for j := range i {
			v, up := known(t, 8)
			var links []api.Link
			l := all()
			for k := 0; k < 64; k += 2 {
				learns(t, v, l[k+1], l[k], 5)
				links = append(links, link(l[k], l[k+1]))
			}
			if j == i-1 && i%2 == 1 {
				learnsNothing(t, v, l[i], l[j], 6)
				has(t, v, up, links...)
				continue
			}
			learns(t, v, l[i], l[j], 6, links[j/2], links[i/2])
			links = slices.Delete(links, i/2, i/2+1)
			links[j/2] = link(l[j], l[i])
			slices.SortFunc(links, before)
			same(t, "Links", v.Links(), links...)
		}
	}
}

func TestAge(t *testing.T) {
	v, up := known(t, 3)
	learns(t, v, at(3, 1), at(3, 2), 10)
	learns(t, v, at(1, 1), at(2, 1), 11)
	learns(t, v, at(1, 2), at(2, 2), 10)
	x, y, z := link(at(1, 1), at(2, 1)), link(at(1, 2), at(2, 2)), link(at(3, 1), at(3, 2))
	age(t, v, 15, 5)
	has(t, v, up, x, y, z)
	age(t, v, 16, 5, y, z) // more than 5 ticks ago
	has(t, v, up, x)
	age(t, v, 16, 5)
	age(t, v, 17, 6)
	age(t, v, 17, 5, x)
	has(t, v, up)
	learns(t, v, at(1, 1), at(2, 1), 20) // it may be seen again
	age(t, v, 20, 0)
	has(t, v, up, x)
	age(t, v, 21, 0, x)
	has(t, v, up)
}

// A probe that comes through again is the one that counts, either way.
func TestSeenAgain(t *testing.T) {
	for _, back := range []bool{false, true} {
		v, up := known(t, 2)
		a, b := at(1, 1), at(2, 1)
		l := link(a, b)
		learns(t, v, a, b, 10)
		if back {
			a, b = b, a
		}
		learnsNothing(t, v, a, b, 20)
		age(t, v, 30, 10)
		has(t, v, up, l)
		learnsNothing(t, v, a, b, 31)
		age(t, v, 41, 10)
		age(t, v, 42, 10, l)
		learns(t, v, a, b, 5) // nothing is left of what was seen ahead of that
		age(t, v, 16, 10, l)
		learns(t, v, a, b, 50)
		learnsNothing(t, v, a, b, 20) // the last one, whenever it was
		age(t, v, 31, 10, l)
		has(t, v, up)
	}
}

// A link that is lost and comes again was seen when it came.
func TestSeenAnew(t *testing.T) {
	v, _ := known(t, 2)
	l := link(at(1, 1), at(2, 1))
	learns(t, v, l.A, l.B, 50)
	ports(t, v, 1, 254, l)
	ports(t, v, 1, 255)
	learns(t, v, l.A, l.B, 20)
	age(t, v, 30, 10)
	age(t, v, 31, 10, l)
	learns(t, v, l.A, l.B, 50)
	learns(t, v, l.A, at(2, 2), 20, l)
	age(t, v, 31, 10, link(l.A, at(2, 2)))
}

func TestTimes(t *testing.T) {
	v, up := known(t, 2)
	x, y := link(at(1, 1), at(2, 1)), link(at(1, 2), at(2, 2))
	learns(t, v, x.A, x.B, 0)
	learns(t, v, y.A, y.B, api.MaxTime)
	age(t, v, 0, 0)
	age(t, v, api.MaxTime, api.MaxTime)
	age(t, v, api.MaxTime, 1<<32, x)
	has(t, v, up, y)
	age(t, v, api.MaxTime, 0)
	has(t, v, up, y)
	learns(t, v, x.A, x.B, 0)
	age(t, v, api.MaxTime, api.MaxTime-1, x)
	has(t, v, up, y)
}

// P21.3.

func TestLinksInOrder(t *testing.T) {
	want := []api.Link{
		link(at(1, 1), at(8, 8)), link(at(1, 2), at(1, 3)), link(at(1, 4), at(2, 1)), link(at(1, 8), at(7, 1)),
		link(at(2, 2), at(6, 1)), link(at(2, 7), at(3, 1)), link(at(3, 8), at(4, 1)), link(at(5, 5), at(8, 1)), link(at(8, 2), at(8, 7)),
	}
	for turn := range 2 * len(want) {
		v, up := known(t, 8)
		for i := range want {
			l := want[(i*5+turn)%len(want)]
			if (i+turn)%2 == 0 {
				l.A, l.B = l.B, l.A
			}
			learns(t, v, l.A, l.B, int64(i))
		}
		has(t, v, up, want...)
		age(t, v, 100, 5, want...)
	}
}

func TestSwitchesRise(t *testing.T) {
	v, up := view.New(), map[int]int{}
	for _, sw := range []int{5, 8, 1, 3, 2, 7, 6, 4} {
		ports(t, v, sw, 0)
		up[sw] = 0
		has(t, v, up)
	}
}

func TestEdge(t *testing.T) {
	v, _ := known(t, 2)
	l := link(at(1, 4), at(2, 5))
	learns(t, v, l.B, l.A, 5)
	for _, p := range all()[:16] {
		if want := p != l.A && p != l.B; v.Edge(p) != want {
			t.Errorf("Edge(%v): %t", p, !want)
		}
	}
	ports(t, v, 2, 1, l)
	if !v.Edge(l.A) || v.Edge(l.B) || v.Up(l.B) {
		t.Error("the one is an edge now, the other one is not up")
	}
}

// The rules that hold everywhere.

func TestNoListIsShared(t *testing.T) {
	v, up := known(t, 3)
	x, y := link(at(1, 1), at(2, 1)), link(at(2, 2), at(3, 3))
	learns(t, v, x.A, x.B, 5)
	learns(t, v, y.A, y.B, 5)
	spoil := func(l []api.Link) {
		for i := range l[:cap(l)] {
			l[:cap(l)][i] = link(at(9, 9), at(9, 9))
		}
	}
	kept, switches := v.Links(), v.Switches()
	spoil(v.Links())
	n := v.Switches()
	for i := range n[:cap(n)] {
		n[:cap(n)][i] = 9
	}
	same(t, "Links", kept, x, y)
	has(t, v, up, x, y)
	lost := v.Drop(1)
	spoil(lost)
	delete(up, 1)
	has(t, v, up, y)
	l, _ := v.Learn(at(2, 2), at(3, 4), 6)
	spoil(l)
	spoil(v.Age(100, 5))
	spoil(v.Ports(2, 1))
	up[2] = 1
	has(t, v, up)
	same(t, "Links", kept, x, y)
	if !slices.Equal(switches, []int{1, 2, 3}) {
		t.Error(switches)
	}
}

func TestTwoViewsAreTwo(t *testing.T) {
	a, b := view.New(), view.New()
	ports(t, a, 1, 3)
	has(t, b, nil)
	ports(t, b, 1, 3)
	learns(t, a, at(1, 1), at(1, 2), 5)
	has(t, b, map[int]int{1: 3})
	drop(t, b, 1)
	has(t, a, map[int]int{1: 3}, link(at(1, 1), at(1, 2)))
}

// P1: calls end at all arguments, also of a view that New did not make.
func TestAnyArguments(t *testing.T) {
	times := []int64{math.MinInt64, -api.MaxTime, -1, 0, 1, api.MaxTime, api.MaxTime + 1, math.MaxInt64}
	full, _ := known(t, 8)
	for _, v := range []*view.View{nil, {}, view.New(), full} {
		for _, now := range times {
			for _, most := range times {
				v.Learn(at(1, 1), at(2, 2), now)
				v.Age(most, now)
			}
			for _, a := range append(bad(), at(1, 1), at(8, 8)) {
				v.Learn(a, at(2, 2), now)
				v.Learn(at(2, 3), a, now)
				v.Learn(a, a, now)
				v.Up(a)
				v.Edge(a)
				v.Ports(a.Sw, a.Port)
				v.Drop(a.Port)
				v.Links()
				v.Switches()
			}
		}
	}
}
