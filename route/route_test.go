package route_test

import (
	"math"
	"slices"
	"testing"

	"ostiary/api"
	"ostiary/route"
)

func at(sw, port int) api.Place { return api.Place{Sw: sw, Port: port} }

func hop(sw, in, out int) api.Hop { return api.Hop{Sw: sw, In: in, Out: out} }

// links are told by four numbers each: a switch and a port, and those of the other end.
func links(l ...[4]int) []api.Link {
	var out []api.Link
	for _, n := range l {
		out = append(out, api.Link{A: at(n[0], n[1]), B: at(n[2], n[3])})
	}
	return out
}

// all are all ports that may be.
func all() []api.Place {
	var l []api.Place
	for sw := 1; sw <= 8; sw++ {
		for n := 1; n <= 8; n++ {
			l = append(l, at(sw, n))
		}
	}
	return l
}

// bad may not be: many of them would be another port's, if only a sum of both numbers, or some bits, were looked at.
func bad() []api.Place {
	l := []api.Place{{}, at(2, -7), at(3, -15), at(0, 9), at(0, 17), at(-1, 25), at(1, 64)}
	for _, n := range []int{math.MinInt, -1 << 61, -1 << 32, -8, -1, 0, 9, 10, 16, 64, 256 + 1, 1<<32 + 1, 1<<61 + 1, math.MaxInt} {
		l = append(l, at(n, 1), at(n, 8), at(1, n), at(8, n), at(n, n), at(2, n))
	}
	return l
}

// noSwitches are numbers that no switch has.
func noSwitches() []int {
	return []int{math.MinInt, -1 << 32, -8, -1, 0, 9, 10, 16, 256 + 1, 1<<32 + 1, math.MaxInt}
}

// finds fails unless the path is just these hops, and is good.
func finds(t *testing.T, l []api.Link, from, to api.Place, via []int, want ...api.Hop) {
	t.Helper()
	got, e := route.Path(l, from, to, via...)
	if e != api.OK || !slices.Equal(got, want) {
		t.Errorf("%v to %v via %v: %v, %d; not %v", from, to, via, got, e, want)
	}
	if len(got) > 64 || !route.Good(l, from, to, got, via...) { // P22.3
		t.Errorf("%v to %v via %v: %v is not good", from, to, via, got)
	}
}

func refuses(t *testing.T, l []api.Link, from, to api.Place, via []int, want api.Errno) {
	t.Helper()
	if got, e := route.Path(l, from, to, via...); e != want || len(got) != 0 {
		t.Errorf("%v to %v via %v: %v, %d; not %d", from, to, via, got, e, want)
	}
}

// good fails unless Good tells want.
func good(t *testing.T, want bool, l []api.Link, from, to api.Place, path []api.Hop, via ...int) {
	t.Helper()
	if route.Good(l, from, to, path, via...) != want {
		t.Errorf("Good(%v to %v, %v, via %v): %t", from, to, path, via, !want)
	}
}

func TestExample(t *testing.T) {
	l := links([4]int{1, 2, 2, 1}, [4]int{2, 2, 3, 1})
	finds(t, l, at(1, 1), at(3, 5), nil, hop(1, 1, 2), hop(2, 1, 2), hop(3, 1, 5))
}

// P22.1.

func TestPathErrArg(t *testing.T) {
	for _, l := range [][]api.Link{nil, links([4]int{1, 2, 2, 1})} { // ahead of ErrPath
		for _, p := range bad() {
			refuses(t, l, p, at(2, 2), nil, api.ErrArg)
			refuses(t, l, at(2, 2), p, nil, api.ErrArg)
			refuses(t, l, p, p, nil, api.ErrArg)
			refuses(t, l, p, at(2, 2), []int{2, 1, 2}, api.ErrArg)
			refuses(t, l, p, at(1, 1), []int{0}, api.ErrArg)
		}
		for _, sw := range noSwitches() {
			for i := range 4 {
				via := []int{2, 2, 2, 2}
				via[i] = sw
				refuses(t, l, at(2, 3), at(2, 2), via, api.ErrArg)
				refuses(t, l, at(2, 3), at(2, 2), via[:i+1], api.ErrArg)
				refuses(t, l, at(2, 2), at(2, 2), via[i:], api.ErrArg)
				refuses(t, l, at(2, 2), at(5, 2), via, api.ErrArg)
			}
		}
		for n := 5; n < 40; n++ {
			refuses(t, l, at(2, 3), at(2, 2), slices.Repeat([]int{2}, n), api.ErrArg)
		}
		refuses(t, l, at(2, 2), at(3, 2), []int{1, 2, 3, 4, 5}, api.ErrArg)
		finds(t, l, at(2, 3), at(2, 2), []int{2, 2, 2, 2}, hop(2, 3, 2)) // four are not too many
	}
}

// One hop goes from each port of a switch to each other one, also if links end there.
func TestOneHop(t *testing.T) {
	for _, l := range [][]api.Link{nil, links([4]int{1, 2, 2, 1}, [4]int{3, 1, 3, 2}, [4]int{8, 8, 1, 1})} {
		for _, a := range all() {
			for port := 1; port <= 8; port++ {
				b := at(a.Sw, port)
				if a == b {
					refuses(t, l, a, b, nil, api.ErrPath)
					refuses(t, l, a, b, []int{a.Sw}, api.ErrPath)
					continue
				}
				finds(t, l, a, b, nil, hop(a.Sw, a.Port, port))
				finds(t, l, a, b, []int{a.Sw, a.Sw}, hop(a.Sw, a.Port, port))
			}
		}
	}
}

func TestNoWay(t *testing.T) {
	l := links([4]int{1, 2, 2, 1}, [4]int{3, 2, 4, 1})
	for _, sw := range []int{3, 4, 5, 8} {
		refuses(t, l, at(1, 1), at(sw, 1), nil, api.ErrPath)
		refuses(t, l, at(sw, 2), at(2, 1), nil, api.ErrPath)
		refuses(t, l, at(1, 1), at(2, 2), []int{sw}, api.ErrPath)
		refuses(t, l, at(1, 1), at(2, 2), []int{1, 2, sw, 2}, api.ErrPath)
		refuses(t, nil, at(1, 1), at(sw, 1), nil, api.ErrPath)
	}
}

// Links lead both ways.
func TestBothWays(t *testing.T) {
	l := links([4]int{5, 7, 2, 4}, [4]int{2, 3, 8, 8})
	finds(t, l, at(5, 1), at(8, 2), nil, hop(5, 1, 7), hop(2, 4, 3), hop(8, 8, 2))
	finds(t, l, at(8, 2), at(5, 1), nil, hop(8, 2, 8), hop(2, 3, 4), hop(5, 7, 1))
	finds(t, l, at(2, 4), at(5, 7), nil, hop(2, 4, 4), hop(5, 7, 7)) // out by the port in, as it is not the only hop
	finds(t, l, at(5, 7), at(2, 4), nil, hop(5, 7, 7), hop(2, 4, 4))
}

func TestFewestLinks(t *testing.T) {
	// by 2 and 3 with the least ports; by 4 with greater ones, but one link less; at last at once
	l := links([4]int{1, 1, 2, 1}, [4]int{2, 2, 3, 1}, [4]int{3, 2, 5, 1}, [4]int{1, 8, 4, 8}, [4]int{4, 7, 5, 8}, [4]int{1, 7, 5, 7})
	finds(t, l, at(1, 2), at(5, 2), nil, hop(1, 2, 7), hop(5, 7, 2))
	finds(t, l[:5], at(1, 2), at(5, 2), nil, hop(1, 2, 8), hop(4, 8, 7), hop(5, 8, 2))
	finds(t, l[:3], at(1, 2), at(5, 2), nil, hop(1, 2, 1), hop(2, 1, 2), hop(3, 1, 2), hop(5, 1, 2))
}

// Of as many links those whose ports out are the least, and the first that is unlike counts.
func TestLeastPortsOut(t *testing.T) {
	l := links([4]int{1, 6, 2, 1}, [4]int{1, 3, 2, 8}, [4]int{2, 3, 1, 5}) // three between two switches
	finds(t, l, at(1, 1), at(2, 2), nil, hop(1, 1, 3), hop(2, 8, 2))
	finds(t, l, at(2, 2), at(1, 1), nil, hop(2, 2, 1), hop(1, 6, 1))
	slices.Reverse(l)
	finds(t, l, at(1, 1), at(2, 2), nil, hop(1, 1, 3), hop(2, 8, 2)) // in whatever order they are told

	l = links([4]int{1, 3, 2, 1}, [4]int{2, 2, 4, 1}, [4]int{1, 2, 3, 8}, [4]int{3, 7, 4, 8}) // by 2 or by 3
	finds(t, l, at(1, 1), at(4, 4), nil, hop(1, 1, 2), hop(3, 8, 7), hop(4, 8, 4))
	finds(t, l, at(4, 4), at(1, 1), nil, hop(4, 4, 1), hop(2, 2, 1), hop(1, 3, 1))

	// to 2 or to 3 first, and from each to 4 or to 5, from where it goes on to 6: what counts is the first port, then the second one
	l = links([4]int{1, 2, 3, 1}, [4]int{1, 4, 2, 1}, [4]int{3, 8, 4, 1}, [4]int{3, 7, 5, 1}, [4]int{2, 2, 4, 2}, [4]int{2, 3, 5, 2}, [4]int{4, 3, 6, 1}, [4]int{5, 4, 6, 2})
	finds(t, l, at(1, 1), at(6, 6), nil, hop(1, 1, 2), hop(3, 1, 7), hop(5, 1, 4), hop(6, 2, 6))
	finds(t, l, at(1, 1), at(4, 6), nil, hop(1, 1, 2), hop(3, 1, 8), hop(4, 1, 6))
}

func TestVia(t *testing.T) {
	// a ring of four, and 5 at 2's side
	l := links([4]int{1, 2, 2, 1}, [4]int{2, 2, 3, 1}, [4]int{3, 2, 4, 1}, [4]int{4, 2, 1, 8}, [4]int{2, 5, 5, 2})
	a, b := at(1, 1), at(3, 5)
	finds(t, l, a, b, nil, hop(1, 1, 2), hop(2, 1, 2), hop(3, 1, 5))
	finds(t, l, a, b, []int{2}, hop(1, 1, 2), hop(2, 1, 2), hop(3, 1, 5))
	finds(t, l, a, b, []int{1, 2, 2, 3}, hop(1, 1, 2), hop(2, 1, 2), hop(3, 1, 5))
	finds(t, l, a, b, []int{4}, hop(1, 1, 8), hop(4, 2, 1), hop(3, 2, 5))
	finds(t, l, a, b, []int{5}, hop(1, 1, 2), hop(2, 1, 5), hop(5, 2, 2), hop(2, 5, 2), hop(3, 1, 5)) // in and out by one port, and by 2 twice
	finds(t, l, a, b, []int{2, 4}, hop(1, 1, 2), hop(2, 1, 1), hop(1, 2, 8), hop(4, 2, 1), hop(3, 2, 5))
	finds(t, l, a, b, []int{3, 4}, hop(1, 1, 2), hop(2, 1, 2), hop(3, 1, 2), hop(4, 1, 1), hop(3, 2, 5))
	finds(t, l, a, b, []int{4, 3, 2, 1}, hop(1, 1, 8), hop(4, 2, 1), hop(3, 2, 1), hop(2, 2, 1), hop(1, 2, 2), hop(2, 1, 2), hop(3, 1, 5))
	finds(t, l, a, b, []int{3, 1, 3}, hop(1, 1, 2), hop(2, 1, 2), hop(3, 1, 1), hop(2, 2, 1), hop(1, 2, 8), hop(4, 2, 1), hop(3, 2, 5))
	finds(t, l, a, a, []int{2}, hop(1, 1, 2), hop(2, 1, 1), hop(1, 2, 1)) // back to the port itself
	finds(t, l, a, at(1, 3), []int{3}, hop(1, 1, 2), hop(2, 1, 2), hop(3, 1, 1), hop(2, 2, 1), hop(1, 2, 3))
}

// No pair that was come to ahead is come to again; not even if there is no other way.
func TestEachPairOnce(t *testing.T) {
	l := links([4]int{1, 2, 2, 1})
	finds(t, l, at(2, 5), at(2, 6), []int{1}, hop(2, 5, 1), hop(1, 2, 2), hop(2, 1, 6))
	refuses(t, l, at(2, 5), at(2, 6), []int{1, 2, 1}, api.ErrPath)
	refuses(t, l, at(2, 1), at(2, 6), []int{1}, api.ErrPath) // the very first pair, too
	finds(t, l, at(2, 1), at(1, 6), nil, hop(2, 1, 1), hop(1, 2, 6))
	l = append(l, links([4]int{1, 7, 2, 6})...) // by another port it may be
	finds(t, l, at(2, 1), at(2, 6), []int{1}, hop(2, 1, 1), hop(1, 2, 7), hop(2, 6, 6))
	finds(t, l, at(2, 5), at(2, 5), []int{1, 2, 1}, hop(2, 5, 1), hop(1, 2, 2), hop(2, 1, 6), hop(1, 7, 7), hop(2, 6, 5))
	refuses(t, l, at(2, 5), at(1, 5), []int{1, 2, 1, 2}, api.ErrPath)

	l = links([4]int{1, 1, 2, 1}, [4]int{2, 2, 1, 2})
	finds(t, l, at(1, 5), at(2, 5), []int{2, 1}, hop(1, 5, 1), hop(2, 1, 1), hop(1, 1, 2), hop(2, 2, 5))
}

// Each way is the one to the next switch, whatever comes behind it: there may be none on from there, though another one would have led on.
func TestNoOtherTry(t *testing.T) {
	l := links([4]int{1, 1, 2, 1}, [4]int{2, 2, 3, 1}, [4]int{1, 2, 4, 1}, [4]int{4, 2, 5, 1}, [4]int{5, 2, 3, 2})
	via := []int{3, 2, 1, 2}
	refuses(t, l, at(1, 5), at(2, 5), via, api.ErrPath)
	good(t, true, l, at(1, 5), at(2, 5), []api.Hop{hop(1, 5, 2), hop(4, 1, 2), hop(5, 1, 2), hop(3, 2, 1), hop(2, 2, 1), hop(1, 1, 1), hop(2, 1, 5)}, via...)
	finds(t, l[1:], at(1, 5), at(2, 5), via[:2], hop(1, 5, 2), hop(4, 1, 2), hop(5, 1, 2), hop(3, 2, 1), hop(2, 2, 5))
}

// All ports of seven switches are come to, and the eighth's, till there is no way on.
func TestAllIsComeTo(t *testing.T) {
	l := links([4]int{1, 2, 8, 1})
	left := all()[2:56]
	for i := range 27 {
		l = append(l, api.Link{A: left[i], B: left[i+27]})
	}
	finds(t, l, at(1, 1), at(8, 5), []int{1, 8}, hop(1, 1, 2), hop(8, 1, 5))
	refuses(t, l, at(1, 1), at(8, 5), []int{8, 1, 8}, api.ErrPath)
	refuses(t, l, at(8, 1), at(8, 5), []int{1}, api.ErrPath)
	refuses(t, l[1:], at(1, 1), at(8, 5), nil, api.ErrPath)
	for sw := 1; sw <= 7; sw++ {
		path, e := route.Path(l, at(sw, 1), at(8, 5))
		if n := len(path); e != api.OK || path[n-1] != hop(8, 1, 5) || path[n-2].Out != 2 || !route.Good(l, at(sw, 1), at(8, 5), path) {
			t.Errorf("from %d: %v, %d", sw, path, e)
		}
	}
}

// A line of switches, there and back: all their ports are come to ahead of the last one.
func TestLongestWay(t *testing.T) {
	l := links([4]int{8, 1, 1, 1}, [4]int{8, 2, 7, 8})
	there, back := []api.Hop{hop(1, 8, 8)}, []api.Hop{hop(8, 1, 2)}
	for sw := 1; sw <= 7; sw++ {
		for n := 2; n <= 6; n += 2 {
			l = append(l, api.Link{A: at(sw, n), B: at(sw, n+1)})
		}
		if sw < 7 {
			l = append(l, api.Link{A: at(sw, 8), B: at(sw+1, 1)})
			there, back = append(there, hop(sw+1, 1, 8)), append(back, hop(8-sw, 8, 1))
		}
	}
	want := slices.Concat([]api.Hop{hop(8, 8, 1), hop(1, 1, 1)}, back, there, []api.Hop{hop(8, 2, 5)})
	finds(t, l, at(8, 8), at(8, 5), []int{1, 8, 1}, want...)
	refuses(t, l, at(8, 8), at(1, 1), []int{1, 8, 1, 8}, api.ErrPath)
}

// The way around a pair that was come to may be longer.
func TestAround(t *testing.T) {
	l := links([4]int{1, 2, 2, 1}, [4]int{1, 3, 3, 1}, [4]int{3, 2, 4, 1}, [4]int{4, 2, 2, 2})
	finds(t, l, at(2, 1), at(2, 5), []int{1}, hop(2, 1, 1), hop(1, 2, 3), hop(3, 1, 2), hop(4, 1, 2), hop(2, 2, 5))
	finds(t, l, at(1, 5), at(2, 5), []int{2, 1}, hop(1, 5, 2), hop(2, 1, 1), hop(1, 2, 3), hop(3, 1, 2), hop(4, 1, 2), hop(2, 2, 5))
	finds(t, l, at(1, 2), at(1, 5), []int{2}, hop(1, 2, 2), hop(2, 1, 2), hop(4, 2, 1), hop(3, 2, 1), hop(1, 3, 5))
}

// Links.

func TestLinksThatAreNone(t *testing.T) {
	good := links([4]int{1, 2, 2, 1})
	for _, p := range bad() { // of one that may not be the other end is free
		l := append([]api.Link{{A: p, B: at(2, 1)}, {A: at(1, 2), B: p}, {A: p, B: p}}, good...)
		finds(t, l, at(1, 1), at(2, 2), nil, hop(1, 1, 2), hop(2, 1, 2))
		refuses(t, l[:3], at(1, 1), at(2, 2), nil, api.ErrPath)
		refuses(t, l[:3], at(2, 2), at(1, 1), nil, api.ErrPath)
	}
	l := append(links([4]int{1, 2, 1, 2}, [4]int{2, 1, 2, 1}), good...) // so is a port that ends both
	finds(t, l, at(1, 1), at(2, 2), nil, hop(1, 1, 2), hop(2, 1, 2))
	refuses(t, links([4]int{1, 2, 1, 2}), at(1, 1), at(1, 1), []int{1}, api.ErrPath)
}

// Of two links at a port the second one is as if it were not there, at its other end, too.
func TestSecondLinks(t *testing.T) {
	x, y, z := [4]int{1, 2, 2, 1}, [4]int{2, 1, 3, 1}, [4]int{3, 1, 4, 1}
	l := links(x, y)
	refuses(t, l, at(2, 5), at(3, 5), nil, api.ErrPath)
	refuses(t, l, at(3, 5), at(2, 5), nil, api.ErrPath)
	finds(t, l, at(1, 5), at(2, 5), nil, hop(1, 5, 2), hop(2, 1, 5))
	finds(t, l, at(2, 5), at(1, 5), nil, hop(2, 5, 1), hop(1, 2, 5))
	l = links(y, x) // in their order
	refuses(t, l, at(1, 5), at(2, 5), nil, api.ErrPath)
	refuses(t, l, at(2, 5), at(1, 5), nil, api.ErrPath)
	finds(t, l, at(2, 5), at(3, 5), nil, hop(2, 5, 1), hop(3, 1, 5))
	for _, l := range [][]api.Link{links(x, y, z), links(x, [4]int{3, 1, 2, 1}, [4]int{4, 1, 3, 1})} { // one that is not there takes no port
		finds(t, l, at(3, 5), at(4, 5), nil, hop(3, 5, 1), hop(4, 1, 5))
		finds(t, l, at(4, 5), at(3, 5), nil, hop(4, 5, 1), hop(3, 1, 5))
		refuses(t, l, at(1, 5), at(3, 5), nil, api.ErrPath)
	}
	l = links(x, x, [4]int{2, 1, 1, 2}, y) // the same one again
	finds(t, l, at(1, 5), at(2, 5), nil, hop(1, 5, 2), hop(2, 1, 5))
	refuses(t, l, at(1, 5), at(3, 5), nil, api.ErrPath)
}

// P22.2.

func TestGood(t *testing.T) {
	l := links([4]int{1, 2, 2, 1}, [4]int{2, 2, 3, 1}, [4]int{1, 3, 1, 4})
	a, b := at(1, 1), at(3, 5)
	p := []api.Hop{hop(1, 1, 2), hop(2, 1, 2), hop(3, 1, 5)}
	good(t, true, l, a, b, p)
	good(t, false, l[:1], a, b, p)
	good(t, false, nil, a, b, p)
	good(t, false, l, at(1, 2), b, p) // it begins elsewhere
	good(t, false, l, at(2, 1), b, p)
	good(t, false, l, a, at(3, 1), p) // it ends elsewhere
	good(t, false, l, a, at(2, 5), p)
	good(t, false, l, b, a, p)
	good(t, false, l, a, b, p[:2])
	good(t, false, l, a, b, p[1:])
	good(t, false, l, a, b, nil)
	good(t, false, l, a, a, nil)
	good(t, false, l, api.Place{}, api.Place{}, nil)
	good(t, false, l, a, b, []api.Hop{p[0], p[2]})
	good(t, false, l, a, b, append(slices.Clone(p), p[2]))
	for i := range p { // each number counts
		for _, d := range []int{-8, -1, 1, 2, 8, 1 << 32} {
			for _, q := range []api.Hop{hop(p[i].Sw+d, p[i].In, p[i].Out), hop(p[i].Sw, p[i].In+d, p[i].Out), hop(p[i].Sw, p[i].In, p[i].Out+d)} {
				other := slices.Clone(p)
				other[i] = q
				good(t, false, l, a, b, other)
			}
		}
	}
}

func TestGoodOneHop(t *testing.T) {
	for _, l := range [][]api.Link{nil, links([4]int{1, 1, 1, 2})} {
		for in := 1; in <= 8; in++ {
			for out := 1; out <= 8; out++ {
				good(t, in != out, l, at(1, in), at(1, out), []api.Hop{hop(1, in, out)})
				good(t, in != out, l, at(1, in), at(1, out), []api.Hop{hop(1, in, out)}, 1)
			}
		}
	}
	good(t, true, nil, at(9, 70), at(9, -1), []api.Hop{hop(9, 70, -1)}) // nothing is asked of the ports but that the hop leads from one to the other
}

// No two hops have the same switch and In, but all else may come again.
func TestGoodPairs(t *testing.T) {
	l := links([4]int{1, 2, 2, 1}, [4]int{2, 2, 3, 1}, [4]int{1, 3, 1, 4})
	good(t, true, l, at(1, 1), at(1, 5), []api.Hop{hop(1, 1, 3), hop(1, 4, 5)}) // by a link from a switch to itself
	good(t, true, l, at(1, 1), at(1, 5), []api.Hop{hop(1, 1, 4), hop(1, 3, 5)})
	good(t, true, l, at(1, 1), at(1, 1), []api.Hop{hop(1, 1, 3), hop(1, 4, 4), hop(1, 3, 1)})
	good(t, false, l, at(1, 1), at(1, 5), []api.Hop{hop(1, 1, 3), hop(1, 4, 3), hop(1, 4, 5)})
	good(t, false, l, at(1, 3), at(1, 5), []api.Hop{hop(1, 3, 3), hop(1, 4, 4), hop(1, 3, 5)}) // the first pair, too
	good(t, false, l, at(1, 4), at(1, 5), []api.Hop{hop(1, 4, 3), hop(1, 4, 5)})
	good(t, true, l, at(2, 5), at(2, 5), []api.Hop{hop(2, 5, 1), hop(1, 2, 2), hop(2, 1, 5)}) // from a port to itself
	good(t, false, l, at(2, 1), at(2, 5), []api.Hop{hop(2, 1, 1), hop(1, 2, 2), hop(2, 1, 5)})
	good(t, true, l, at(1, 2), at(2, 1), []api.Hop{hop(1, 2, 2), hop(2, 1, 1)}) // out by the port in
	good(t, true, l, at(2, 5), at(2, 6), []api.Hop{hop(2, 5, 1), hop(1, 2, 2), hop(2, 1, 2), hop(3, 1, 1), hop(2, 2, 6)})
	good(t, false, l, at(2, 5), at(2, 6), []api.Hop{hop(2, 5, 1), hop(1, 2, 2), hop(2, 1, 2), hop(3, 1, 1), hop(2, 2, 1), hop(1, 2, 2), hop(2, 1, 6)})
}

func TestGoodVia(t *testing.T) {
	l := links([4]int{1, 2, 2, 1}, [4]int{2, 2, 3, 1}, [4]int{3, 2, 1, 3})
	p := []api.Hop{hop(1, 1, 2), hop(2, 1, 2), hop(3, 1, 2), hop(1, 3, 5)}
	for _, c := range []struct {
		via  []int
		want bool
	}{
		{nil, true}, {[]int{1}, true}, {[]int{2}, true}, {[]int{3}, true}, {[]int{4}, false}, {[]int{0}, false}, {[]int{-1}, false}, {[]int{math.MaxInt}, false},
		{[]int{1, 2}, true}, {[]int{2, 3}, true}, {[]int{1, 3}, true}, {[]int{3, 2}, false}, {[]int{2, 1}, true}, {[]int{3, 1}, true}, {[]int{2, 4}, false}, {[]int{4, 2}, false},
		{[]int{1, 1}, true}, {[]int{2, 2}, true}, {[]int{2, 2, 2}, true}, {[]int{4, 4}, false}, // named twice in a row
		{[]int{2, 3, 2}, false}, {[]int{1, 2, 1}, true}, {[]int{1, 2, 1, 2}, false}, {[]int{1, 2, 1, 1}, true}, {[]int{3, 1, 3}, false},
		{[]int{1, 2, 3, 1}, true}, {[]int{1, 1, 2, 2, 2, 3, 3, 1, 1}, true}, {[]int{1, 1, 2, 2, 3, 2, 1}, false}, {[]int{1, 2, 3, 1, 1, 4}, false},
	} {
		good(t, c.want, l, at(1, 1), at(1, 5), p, c.via...)
	}
	good(t, false, l[:2], at(1, 1), at(1, 5), p, 2) // it goes by 2, but does not lead there
}

func TestGoodLinks(t *testing.T) {
	x, y, z := [4]int{1, 2, 2, 1}, [4]int{2, 1, 3, 1}, [4]int{3, 1, 4, 1}
	p := func(l [4]int) (api.Place, api.Place, []api.Hop) {
		return at(l[0], 5), at(l[2], 6), []api.Hop{hop(l[0], 5, l[1]), hop(l[2], l[3], 6)}
	}
	back := func(l [4]int) (api.Place, api.Place, []api.Hop) { return p([4]int{l[2], l[3], l[0], l[1]}) }
	for _, c := range []struct {
		l    [][4]int
		want [3]bool
	}{
		{nil, [3]bool{}}, {[][4]int{x}, [3]bool{true}}, {[][4]int{x, y}, [3]bool{true}}, {[][4]int{y, x}, [3]bool{false, true}}, {[][4]int{x, y, z}, [3]bool{true, false, true}},
		{[][4]int{y, x, z}, [3]bool{false, true}}, {[][4]int{z, y, x}, [3]bool{true, false, true}}, {[][4]int{{1, 2, 1, 2}, {1, 9, 2, 1}, x}, [3]bool{true}},
	} {
		for i, k := range [][4]int{x, y, z} {
			a, b, path := p(k)
			good(t, c.want[i], links(c.l...), a, b, path)
			a, b, path = back(k)
			good(t, c.want[i], links(c.l...), a, b, path)
		}
	}
	for _, q := range bad() {
		l := []api.Link{{A: at(1, 2), B: q}, {A: q, B: at(1, 2)}}
		good(t, false, l, at(1, 1), q, []api.Hop{hop(1, 1, 2), hop(q.Sw, q.Port, q.Port)})
		good(t, false, l, at(1, 1), at(q.Sw, 5), []api.Hop{hop(1, 1, 2), hop(q.Sw, q.Port, 5)})
	}
}

// P22.3.

// Each switch is linked to four others by two links each, so that a path by many of them has many hops.
func TestLongWays(t *testing.T) {
	var l []api.Link
	for i := range 8 {
		for n := 1; n <= 4; n++ {
			l = append(l, api.Link{A: at(1+i, n), B: at(1+(i+(n+1)/2)%8, 4+n)})
		}
	}
	most := 0
	for n := range 8 * 8 * 8 * 8 {
		via := []int{1 + n%8, 1 + n/8%8, 1 + n/64%8, 1 + n/512%8}
		path, e := route.Path(l, at(1, 8), at(5, 8), via...)
		if e != api.OK || len(path) > 64 || !route.Good(l, at(1, 8), at(5, 8), path, via...) {
			t.Fatalf("via %v: %v, %d", via, path, e)
		}
		most = max(most, len(path))
	}
	if most < 9 {
		t.Error("too short:", most)
	}
}

// P22.4.

// Over lines of switches: the path has as many hops as there are switches, and beyond a gap there is none.
func TestLines(t *testing.T) {
	order := []int{3, 8, 1, 6, 4, 2, 7, 5}
	var l []api.Link
	for i := range 7 {
		l = append(l, api.Link{A: at(order[i], 7-i), B: at(order[i+1], 8)})
	}
	for i := range order {
		for j := range order {
			for gap := range 8 { // the link ahead of number gap is not there
				left := slices.Clone(l)
				if gap > 0 {
					left = slices.Delete(left, gap-1, gap)
				}
				a, b := at(order[i], 1+i%2), at(order[j], 2-i%2)
				path, e := route.Path(left, a, b)
				if gap > min(i, j) && gap <= max(i, j) {
					if e != api.ErrPath || len(path) != 0 {
						t.Errorf("%v to %v: %v, %d", a, b, path, e)
					}
					continue
				}
				if e != api.OK || len(path) != max(i-j, j-i)+1 || !route.Good(left, a, b, path) {
					t.Errorf("%v to %v: %v, %d", a, b, path, e)
				}
			}
		}
	}
}

// The rules that hold everywhere.

func TestNothingHandedInIsChanged(t *testing.T) {
	l := links([4]int{3, 1, 2, 2}, [4]int{2, 1, 1, 2}, [4]int{2, 1, 4, 1}, [4]int{0, 1, 2, 3})
	via := append(make([]int, 0, 8), 1, 2)
	spare := via[:8]
	for i := range spare[2:] {
		spare[2+i] = 77
	}
	before, want := slices.Clone(l), slices.Clone(spare)
	path, e := route.Path(l, at(1, 1), at(3, 5), via...)
	if e != api.OK || len(path) != 3 {
		t.Fatal(path, e)
	}
	kept := slices.Clone(path)
	if !route.Good(l, at(1, 1), at(3, 5), path, via...) || !slices.Equal(path, kept) || !slices.Equal(l, before) || !slices.Equal(spare, want) {
		t.Error(path, l, spare)
	}
	again, _ := route.Path(l, at(1, 1), at(3, 5), via...)
	for i := range path[:cap(path)] {
		path[:cap(path)][i] = hop(9, 9, 9)
	}
	third, _ := route.Path(l, at(1, 1), at(3, 5), via...)
	if !slices.Equal(again, kept) || !slices.Equal(third, kept) {
		t.Error(again, third)
	}
}

// Much is gone through in little time.
func TestMuch(t *testing.T) {
	var l []api.Link
	for i := range 200000 {
		l = append(l, api.Link{A: at(1+i%9, i%11), B: at(i%10, 1+i%8)})
	}
	route.Path(l, at(1, 1), at(8, 8), 2, 3, 4, 5)
	l = links([4]int{1, 1, 2, 2}, [4]int{2, 1, 3, 2}, [4]int{3, 1, 1, 2})
	var round []api.Hop
	for i := range 300000 {
		round = append(round, hop(1+i%3, 2, 1))
	}
	good(t, false, l, at(1, 2), at(3, 1), round)
	good(t, true, l, at(1, 2), at(3, 1), round[:3])
	good(t, false, l, at(1, 2), at(3, 1), round[:6])
	good(t, false, l, at(1, 2), at(3, 1), round[:3], make([]int, 300000)...)
	good(t, true, l, at(1, 2), at(3, 1), round[:3], slices.Repeat([]int{2}, 300000)...)
	refuses(t, l, at(1, 2), at(3, 1), slices.Repeat([]int{2}, 300000), api.ErrArg)
}

// P1: calls end at all arguments.
func TestAnyArguments(t *testing.T) {
	places := append(bad(), at(1, 1), at(1, 2), at(8, 8))
	vias := [][]int{nil, {1}, {8, 1, 8, 1}, noSwitches()}
	for _, a := range places {
		for _, b := range places {
			l := []api.Link{{A: a, B: b}, {A: b, B: at(1, 2)}, {A: at(1, 1), B: a}}
			for _, via := range vias {
				for _, path := range [][]api.Hop{nil, {{}}, {hop(a.Sw, a.Port, b.Port)}, {hop(a.Sw, a.Port, a.Port), hop(b.Sw, b.Port, b.Port)}} {
					route.Good(l, a, b, path, via...)
				}
				route.Path(l, a, b, via...)
				route.Path(l, at(1, 1), b, via...)
			}
		}
	}
}
