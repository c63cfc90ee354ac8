package cable_test

import (
	"math"
	"slices"
	"testing"

	"ostiary/api"
	"ostiary/cable"
)

func at(sw, port int) api.Place { return api.Place{Sw: sw, Port: port} }

func link(a, b api.Place) api.Link { return api.Link{A: a, B: b} }

func port(p api.Place) cable.End { return cable.End{Kind: cable.Switch, Place: p} }

func machine(host int) cable.End { return cable.End{Kind: cable.Machine, Host: host} }

// all are all ports that may be, in order.
func all() []api.Place {
	var l []api.Place
	for sw := 1; sw <= 8; sw++ {
		for n := 1; n <= 8; n++ {
			l = append(l, at(sw, n))
		}
	}
	return l
}

// bad may not be: many of them would be another port's, if only a sum of both numbers, or some bits, were looked at.
func bad() []api.Place {
	l := []api.Place{{}, at(2, -7), at(3, -15), at(0, 9), at(0, 17), at(-1, 25), at(1, 64)}
	for _, n := range []int{math.MinInt, -1 << 61, -1 << 32, -8, -1, 0, 9, 10, 16, 64, 256 + 1, 1<<32 + 1, 1<<61 + 1, math.MaxInt} {
		l = append(l, at(n, 1), at(n, 8), at(1, n), at(8, n), at(n, n), at(2, n))
	}
	return l
}

func joins(t *testing.T, n *cable.Net, a, b api.Place, want api.Errno) {
	t.Helper()
	if got := n.Join(a, b); got != want {
		t.Errorf("Join(%v, %v): %d, not %d", a, b, got, want)
	}
}

func attaches(t *testing.T, n *cable.Net, host int, p api.Place, want api.Errno) {
	t.Helper()
	if got := n.Attach(host, p); got != want {
		t.Errorf("Attach(%d, %v): %d, not %d", host, p, got, want)
	}
}

func pulls(t *testing.T, n *cable.Net, p api.Place, want cable.End) {
	t.Helper()
	if got, ok := n.Pull(p); got != want || ok != (want.Kind != cable.Nothing) {
		t.Errorf("Pull(%v): %+v, %t; not %+v", p, got, ok, want)
	}
}

// has fails unless just these cables and machines are plugged in, and each call that asks says so.
func has(t *testing.T, n *cable.Net, links []api.Link, hosts map[int]api.Place) {
	t.Helper()
	if got := n.Links(); !slices.Equal(got, links) {
		t.Errorf("Links: %v, not %v", got, links)
	}
	ends := map[api.Place]cable.End{}
	for _, l := range links {
		ends[l.A], ends[l.B] = port(l.B), port(l.A)
	}
	for host := -3; host < 20; host++ {
		want, ok := hosts[host]
		if ok {
			ends[want] = machine(host)
		}
		if got, is := n.Where(host); got != want || is != ok {
			t.Errorf("Where(%d): %v, %t; not %v, %t", host, got, is, want, ok)
		}
	}
	for sw := -2; sw <= 11; sw++ {
		for k := -20; k <= 20; k++ {
			p := at(sw, k)
			if got := n.Other(p); got != ends[p] {
				t.Errorf("Other(%v): %+v, not %+v", p, got, ends[p])
			}
		}
	}
	holds(t, n)
}

// holds is P19.3, of all ports.
func holds(t *testing.T, n *cable.Net) {
	t.Helper()
	for _, p := range all() {
		switch e := n.Other(p); e.Kind {
		case cable.Switch:
			if back := n.Other(e.Place); back != port(p) {
				t.Errorf("%v leads to %v, which leads to %+v", p, e.Place, back)
			}
		case cable.Machine:
			if back, ok := n.Where(e.Host); back != p || !ok {
				t.Errorf("at %v is %d, which is at %v, %t", p, e.Host, back, ok)
			}
		}
	}
}

func TestExample(t *testing.T) {
	n := cable.New()
	joins(t, n, at(1, 2), at(3, 4), api.OK)
	if got := n.Other(at(3, 4)); got != port(at(1, 2)) {
		t.Errorf("%+v", got)
	}
}

func TestKinds(t *testing.T) {
	if cable.Nothing != 0 || cable.Switch != 1 || cable.Machine != 2 {
		t.Error(cable.Nothing, cable.Switch, cable.Machine)
	}
}

// Of a nil net.
func TestNilNet(t *testing.T) {
	var n *cable.Net
	for _, p := range append(bad(), at(1, 1), at(8, 8)) {
		joins(t, n, p, at(2, 2), api.ErrNil) // ahead of ErrArg
		joins(t, n, at(2, 2), p, api.ErrNil)
		joins(t, n, p, p, api.ErrNil)
		attaches(t, n, 0, p, api.ErrNil)
		attaches(t, n, -1, p, api.ErrNil)
		attaches(t, n, 16, p, api.ErrNil)
		pulls(t, n, p, cable.End{})
	}
	has(t, n, nil, nil)
}

func TestNew(t *testing.T) {
	has(t, cable.New(), nil, nil)
}

// P19.1.

func TestGood(t *testing.T) {
	for sw := -3; sw <= 20; sw++ {
		for k := -3; k <= 20; k++ {
			if got, want := cable.Good(at(sw, k)), sw >= 1 && sw <= 8 && k >= 1 && k <= 8; got != want {
				t.Errorf("Good({%d %d}): %t", sw, k, got)
			}
		}
	}
	for _, p := range bad() {
		if cable.Good(p) {
			t.Errorf("Good(%v)", p)
		}
	}
}

// Each two ports, both ways round.
func TestJoin(t *testing.T) {
	for i, a := range all() {
		for j, b := range all() {
			n := cable.New()
			if i == j {
				joins(t, n, a, b, api.ErrArg)
				if len(n.Links()) != 0 {
					t.Errorf("%v to itself: %v", a, n.Links())
				}
				continue
			}
			joins(t, n, a, b, api.OK)
			want := link(a, b)
			if j < i {
				want = link(b, a)
			}
			if l := n.Links(); len(l) != 1 || l[0] != want || n.Other(a) != port(b) || n.Other(b) != port(a) {
				t.Errorf("Join(%v, %v): %v, %+v, %+v", a, b, l, n.Other(a), n.Other(b))
			}
			holds(t, n)
		}
	}
}

func TestJoinErrArg(t *testing.T) {
	for _, n := range []*cable.Net{cable.New(), full(t)} { // ahead of ErrThere
		links, hosts := n.Links(), hostsOf(n)
		for _, p := range bad() {
			joins(t, n, p, at(1, 1), api.ErrArg)
			joins(t, n, at(1, 1), p, api.ErrArg)
			joins(t, n, p, at(8, 8), api.ErrArg)
			joins(t, n, at(8, 8), p, api.ErrArg)
			joins(t, n, p, p, api.ErrArg)
			joins(t, n, p, at(0, 1), api.ErrArg)
		}
		for _, p := range all() {
			joins(t, n, p, p, api.ErrArg)
		}
		has(t, n, links, hosts)
	}
}

func TestJoinErrThere(t *testing.T) {
	n := cable.New()
	joins(t, n, at(1, 2), at(3, 4), api.OK)
	attaches(t, n, 5, at(6, 7), api.OK)
	for _, p := range []api.Place{at(1, 2), at(3, 4), at(6, 7)} {
		joins(t, n, p, at(2, 2), api.ErrThere)
		joins(t, n, at(2, 2), p, api.ErrThere)
	}
	joins(t, n, at(1, 2), at(3, 4), api.ErrThere) // the very same cable
	joins(t, n, at(3, 4), at(1, 2), api.ErrThere)
	joins(t, n, at(3, 4), at(6, 7), api.ErrThere)
	joins(t, n, at(6, 7), at(1, 2), api.ErrThere)
	has(t, n, []api.Link{link(at(1, 2), at(3, 4))}, map[int]api.Place{5: at(6, 7)})
	joins(t, n, at(2, 2), at(2, 1), api.OK) // between two ports of one switch
	has(t, n, []api.Link{link(at(1, 2), at(3, 4)), link(at(2, 1), at(2, 2))}, map[int]api.Place{5: at(6, 7)})
}

func TestAttach(t *testing.T) {
	for host := range 16 {
		for _, p := range all() {
			n := cable.New()
			attaches(t, n, host, p, api.OK)
			if got, ok := n.Where(host); got != p || !ok || n.Other(p) != machine(host) || len(n.Links()) != 0 {
				t.Errorf("Attach(%d, %v): %v, %t, %+v", host, p, got, ok, n.Other(p))
			}
			holds(t, n)
		}
	}
	n := cable.New()
	want := map[int]api.Place{}
	for host := range 16 {
		want[host] = all()[63-3*host]
		attaches(t, n, host, want[host], api.OK)
	}
	has(t, n, nil, want)
}

func TestAttachErrArg(t *testing.T) {
	hosts := []int{math.MinInt, -1 << 32, -16, -1, 16, 17, 256, 1 << 32, math.MaxInt}
	for _, n := range []*cable.Net{cable.New(), full(t)} { // ahead of ErrThere
		links, before := n.Links(), hostsOf(n)
		for _, host := range hosts {
			attaches(t, n, host, at(1, 1), api.ErrArg)
			attaches(t, n, host, at(8, 8), api.ErrArg)
			attaches(t, n, host, at(0, 0), api.ErrArg)
			if p, ok := n.Where(host); ok || p != (api.Place{}) {
				t.Errorf("Where(%d): %v, %t", host, p, ok)
			}
		}
		for _, p := range bad() {
			attaches(t, n, 0, p, api.ErrArg)
			attaches(t, n, 15, p, api.ErrArg)
		}
		has(t, n, links, before)
	}
}

func TestAttachErrThere(t *testing.T) {
	n := cable.New()
	joins(t, n, at(1, 2), at(3, 4), api.OK)
	attaches(t, n, 0, at(6, 7), api.OK)
	for _, p := range []api.Place{at(1, 2), at(3, 4), at(6, 7)} {
		attaches(t, n, 1, p, api.ErrThere)
		attaches(t, n, 0, p, api.ErrThere)
	}
	attaches(t, n, 0, at(6, 8), api.ErrThere) // it is somewhere
	has(t, n, []api.Link{link(at(1, 2), at(3, 4))}, map[int]api.Place{0: at(6, 7)})
	attaches(t, n, 1, at(6, 8), api.OK)
	has(t, n, []api.Link{link(at(1, 2), at(3, 4))}, map[int]api.Place{0: at(6, 7), 1: at(6, 8)})
}

// full is a net with something at each port: sixteen machines, and twenty-four cables.
func full(t *testing.T) *cable.Net {
	n, l := cable.New(), all()
	for host := range 16 {
		attaches(t, n, host, l[4*host], api.OK)
		l[4*host] = api.Place{}
	}
	l = slices.DeleteFunc(l, func(p api.Place) bool { return p.Sw == 0 })
	for len(l) > 0 {
		joins(t, n, l[0], l[len(l)-1], api.OK)
		l = l[1 : len(l)-1]
	}
	return n
}

// hostsOf is where all machines are, as their ports have it.
func hostsOf(n *cable.Net) map[int]api.Place {
	out := map[int]api.Place{}
	for _, p := range all() {
		if e := n.Other(p); e.Kind == cable.Machine {
			out[e.Host] = p
		}
	}
	return out
}

func TestFull(t *testing.T) {
	n := full(t)
	if len(n.Links()) != 24 || len(hostsOf(n)) != 16 {
		t.Error(n.Links(), hostsOf(n))
	}
	has(t, n, n.Links(), hostsOf(n))
	for i, a := range all() {
		attaches(t, n, i%16, a, api.ErrThere)
		joins(t, n, a, all()[(i+1)%64], api.ErrThere)
	}
}

// P19.2.

func TestOther(t *testing.T) {
	n := full(t)
	for _, p := range bad() {
		if got := n.Other(p); got != (cable.End{}) {
			t.Errorf("Other(%v): %+v", p, got)
		}
	}
}

func TestPullACable(t *testing.T) {
	for _, first := range []bool{true, false} {
		n := cable.New()
		a, b := at(3, 4), at(1, 2)
		joins(t, n, at(3, 3), at(1, 3), api.OK)
		joins(t, n, a, b, api.OK)
		attaches(t, n, 7, at(1, 1), api.OK)
		if !first {
			a, b = b, a
		}
		pulls(t, n, a, port(b))
		has(t, n, []api.Link{link(at(1, 3), at(3, 3))}, map[int]api.Place{7: at(1, 1)})
		pulls(t, n, a, cable.End{})
		pulls(t, n, b, cable.End{}) // neither here nor at the other end
		joins(t, n, a, at(5, 5), api.OK)
		attaches(t, n, 8, b, api.OK)
		has(t, n, ordered(link(at(1, 3), at(3, 3)), lesser(a, at(5, 5))), map[int]api.Place{7: at(1, 1), 8: b})
	}
}

func lesser(a, b api.Place) api.Link {
	if before(b, a) < 0 {
		return link(b, a)
	}
	return link(a, b)
}

func ordered(l ...api.Link) []api.Link {
	slices.SortFunc(l, func(a, b api.Link) int { return before(a.A, b.A) })
	return l
}

func TestPullAMachine(t *testing.T) {
	n := cable.New()
	joins(t, n, at(3, 4), at(1, 2), api.OK)
	attaches(t, n, 0, at(1, 1), api.OK)
	attaches(t, n, 15, at(2, 8), api.OK)
	pulls(t, n, at(1, 1), machine(0))
	links := []api.Link{link(at(1, 2), at(3, 4))}
	has(t, n, links, map[int]api.Place{15: at(2, 8)})
	pulls(t, n, at(1, 1), cable.End{})
	attaches(t, n, 0, at(2, 8), api.ErrThere)
	attaches(t, n, 0, at(4, 4), api.OK) // it may be elsewhere now
	pulls(t, n, at(2, 8), machine(15))
	attaches(t, n, 14, at(2, 8), api.OK) // and there another one
	has(t, n, links, map[int]api.Place{0: at(4, 4), 14: at(2, 8)})
}

func TestPullNothing(t *testing.T) {
	for _, n := range []*cable.Net{cable.New(), full(t)} {
		links, hosts := n.Links(), hostsOf(n)
		for _, p := range bad() {
			pulls(t, n, p, cable.End{})
		}
		has(t, n, links, hosts)
	}
	n := cable.New()
	joins(t, n, at(1, 1), at(2, 2), api.OK)
	for _, p := range all() {
		if p != at(1, 1) && p != at(2, 2) {
			pulls(t, n, p, cable.End{})
		}
	}
	has(t, n, []api.Link{link(at(1, 1), at(2, 2))}, nil)
}

// All that is pulled is gone, and all can be plugged in again.
func TestPullAll(t *testing.T) {
	n := full(t)
	links, hosts := n.Links(), hostsOf(n)
	for _, p := range all() {
		pulls(t, n, p, n.Other(p))
	}
	has(t, n, nil, nil)
	for _, l := range links {
		joins(t, n, l.B, l.A, api.OK)
	}
	for host, p := range hosts {
		attaches(t, n, host, p, api.OK)
	}
	has(t, n, links, hosts)
}

func TestWhere(t *testing.T) {
	n := cable.New()
	attaches(t, n, 3, at(2, 2), api.OK)
	joins(t, n, at(1, 1), at(1, 2), api.OK)
	has(t, n, []api.Link{link(at(1, 1), at(1, 2))}, map[int]api.Place{3: at(2, 2)})
	for _, host := range []int{math.MinInt, -1, 0, 16, 1<<32 + 3, math.MaxInt} { // an end that is no machine's has Host 0, too
		if p, ok := n.Where(host); ok || p != (api.Place{}) {
			t.Errorf("Where(%d): %v, %t", host, p, ok)
		}
	}
}

// By switch, then by number, whichever way round, and in whichever order, they were joined.
func TestLinksInOrder(t *testing.T) {
	want := []api.Link{
		link(at(1, 1), at(8, 8)), link(at(1, 2), at(1, 3)), link(at(1, 4), at(2, 1)), link(at(1, 8), at(7, 1)),
		link(at(2, 2), at(6, 1)), link(at(2, 7), at(3, 1)), link(at(3, 8), at(4, 1)), link(at(5, 5), at(8, 1)), link(at(8, 2), at(8, 7)),
	}
	for turn := range 2 * len(want) {
		n := cable.New()
		for i := range want {
			l := want[(i*5+turn)%len(want)]
			if (i+turn)%2 == 0 {
				l.A, l.B = l.B, l.A
			}
			joins(t, n, l.A, l.B, api.OK)
		}
		has(t, n, want, nil)
	}
}

// The rules that hold everywhere.

func TestNoListIsShared(t *testing.T) {
	n := full(t)
	links, hosts := n.Links(), hostsOf(n)
	a, b := n.Links(), n.Links()
	for i := range a[:cap(a)] {
		a[:cap(a)][i] = link(at(9, 9), at(9, 9))
	}
	if !slices.Equal(b, links) {
		t.Error(b)
	}
	has(t, n, links, hosts)
	pulls(t, n, links[0].B, port(links[0].A))
	if !slices.Equal(b, links) {
		t.Error(b)
	}
	has(t, n, links[1:], hosts)
}

func TestTwoNetsAreTwo(t *testing.T) {
	x, y := cable.New(), cable.New()
	joins(t, x, at(1, 1), at(2, 2), api.OK)
	attaches(t, x, 1, at(3, 3), api.OK)
	has(t, y, nil, nil)
	attaches(t, y, 1, at(1, 1), api.OK)
	pulls(t, x, at(1, 1), port(at(2, 2)))
	has(t, x, nil, map[int]api.Place{1: at(3, 3)})
	has(t, y, nil, map[int]api.Place{1: at(1, 1)})
}

// P1: calls end at all arguments, also of a net that New did not make.
func TestAnyArguments(t *testing.T) {
	places := append(bad(), at(1, 1), at(1, 2), at(8, 8))
	for _, n := range []*cable.Net{nil, {}, cable.New(), full(t)} {
		for _, a := range places {
			for _, b := range places {
				n.Join(a, b)
			}
			for _, host := range []int{math.MinInt, -1, 0, 15, 16, math.MaxInt} {
				n.Attach(host, a)
				n.Where(host)
			}
			n.Other(a)
			n.Pull(a)
			n.Links()
			cable.Good(a)
		}
	}
}
