package route_test

import (
	"math/rand"
	"slices"
	"testing"

	"ostiary/api"
	"ostiary/route"
)

func may(p api.Place) bool { return p.Sw > 0 && p.Sw < 9 && p.Port > 0 && p.Port < 9 }

// leadsTo is where each port leads, as the chapter tells it: link by link, unless one is as if it were not there.
func leadsTo(l []api.Link) map[api.Place]api.Place {
	to := map[api.Place]api.Place{}
	for _, k := range l {
		_, a := to[k.A]
		_, b := to[k.B]
		if may(k.A) && may(k.B) && k.A != k.B && !a && !b {
			to[k.A], to[k.B] = k.B, k.A
		}
	}
	return to
}

// less: fewer links, and of as many those with the least ports out.
func less(a, b []int) bool {
	if len(a) != len(b) {
		return len(a) < len(b)
	}
	return slices.Compare(a, b) < 0
}

// ways is the ports out of the best way from a pair to each one that can be come to, without those that were come to: all are made better till none can be.
func ways(to map[api.Place]api.Place, from api.Place, come []api.Place) map[api.Place][]int {
	best := map[api.Place][]int{from: {}}
	for better := true; better; {
		better = false
		for _, p := range all() {
			l, ok := best[p]
			if !ok {
				continue // nobody came there yet
			}
			for port := 1; port <= 8; port++ {
				q, leads := to[at(p.Sw, port)]
				if !leads || q == from || slices.Contains(come, q) {
					continue
				}
				if old, ok := best[q]; !ok || less(append(slices.Clone(l), port), old) {
					best[q] = append(slices.Clone(l), port)
					better = true
				}
			}
		}
	}
	return best
}

// modelPath is Path by these, of arguments that may be.
func modelPath(l []api.Link, from, end api.Place, via []int) []api.Hop {
	to, p, come := leadsTo(l), from, []api.Place{from}
	var hops []api.Hop
	for _, sw := range append(slices.Clone(via), end.Sw) {
		var way []int
		found := false
		for q, w := range ways(to, p, come) {
			if q.Sw == sw && (!found || less(w, way)) {
				way, found = w, true
			}
		}
		if !found {
			return nil
		}
		for _, port := range way {
			hops = append(hops, hop(p.Sw, p.Port, port))
			p = to[at(p.Sw, port)]
			come = append(come, p)
		}
	}
	if len(hops) == 0 && p == end {
		return nil
	}
	return append(hops, hop(p.Sw, p.Port, end.Port))
}

// goes tries all that via may be among the hops: each behind the one ahead, or there, too, if it is the same switch.
func goes(path []api.Hop, via []int, first int) bool {
	if len(via) == 0 {
		return true
	}
	for i := first; i < len(path); i++ {
		next := i + 1
		if len(via) > 1 && via[1] == via[0] {
			next = i
		}
		if path[i].Sw == via[0] && goes(path, via[1:], next) {
			return true
		}
	}
	return false
}

func modelGood(l []api.Link, from, end api.Place, path []api.Hop, via []int) bool {
	to, come := leadsTo(l), map[api.Place]int{}
	p := from
	for i, h := range path {
		if at(h.Sw, h.In) != p || come[p] > 0 {
			return false
		}
		come[p]++
		if i == len(path)-1 {
			return at(h.Sw, h.Out) == end && (i > 0 || h.In != h.Out) && goes(path, via, 0)
		}
		next, ok := to[at(h.Sw, h.Out)]
		if !ok {
			return false
		}
		p = next
	}
	return false
}

// dice throws nets, ports, switches and paths.
type dice struct {
	*rand.Rand
	switches, ports int
}

func (d dice) place() api.Place {
	if d.Intn(40) == 0 {
		l := bad()
		return l[d.Intn(len(l))]
	}
	return at(1+d.Intn(d.switches), 1+d.Intn(d.ports))
}

func (d dice) goodPlace() api.Place { return at(1+d.Intn(d.switches), 1+d.Intn(d.ports)) }

func (d dice) links() []api.Link {
	var l []api.Link
	for range d.Intn(2 + d.switches*d.ports) {
		l = append(l, api.Link{A: d.place(), B: d.place()})
	}
	return l
}

func (d dice) via(most int) []int {
	var l []int
	for range d.Intn(most + 1) {
		l = append(l, 1+d.Intn(d.switches))
	}
	return l
}

// walk goes along links by chance, whatever was come to, and on to some port.
func (d dice) walk(l []api.Link, from api.Place) []api.Hop {
	to, p := leadsTo(l), from
	var hops []api.Hop
	for range d.Intn(8) {
		port := 1 + d.Intn(d.ports)
		q, ok := to[at(p.Sw, port)]
		if ok {
			hops = append(hops, hop(p.Sw, p.Port, port))
			p = q
		}
	}
	return append(hops, hop(p.Sw, p.Port, 1+d.Intn(d.ports)))
}

// spoil changes one number of one hop, leaves a hop out, or has one twice.
func (d dice) spoil(path []api.Hop) []api.Hop {
	l := slices.Clone(path)
	if len(l) == 0 {
		return append(l, hop(1+d.Intn(d.switches), 1+d.Intn(d.ports), 1+d.Intn(d.ports)))
	}
	i := d.Intn(len(l))
	switch d.Intn(5) {
	case 0:
		l[i].Sw = 1 + d.Intn(d.switches)
	case 1:
		l[i].In = 1 + d.Intn(d.ports)
	case 2:
		l[i].Out = 1 + d.Intn(d.ports)
	case 3:
		l = slices.Delete(l, i, i+1)
	case 4:
		l = slices.Insert(l, i, l[i])
	}
	return l
}

func TestPathByChance(t *testing.T) {
	counts := map[string]int{}
	for seed := range int64(1600) {
		d := dice{rand.New(rand.NewSource(seed)), 1 + int(seed%8), 1 + int(seed/8%8)}
		l := d.links()
		for range 6 {
			from, to, via := d.goodPlace(), d.goodPlace(), d.via(4)
			if d.Intn(2) == 0 {
				via = nil
			}
			want := modelPath(l, from, to, via)
			if want == nil {
				refuses(t, l, from, to, via, api.ErrPath)
				counts["none"]++
				continue
			}
			finds(t, l, from, to, via, want...)
			counts["found"]++
			if len(via) > 0 && len(want) > 1 {
				counts["via"]++
			}
			if len(want) > 4 {
				counts["long"]++
			}
		}
		if t.Failed() {
			t.Fatal(seed, l)
		}
	}
	for _, what := range []string{"none", "found", "via", "long"} {
		if counts[what] < 400 {
			t.Error("too few:", what, counts)
		}
	}
}

func TestGoodByChance(t *testing.T) {
	counts := map[bool]int{}
	for seed := range int64(1600) {
		d := dice{rand.New(rand.NewSource(seed)), 1 + int(seed%8), 1 + int(seed/8%8)}
		l := d.links()
		for range 10 {
			from, via := d.goodPlace(), d.via(3)
			path := d.walk(l, from)
			for range d.Intn(3) {
				path = d.spoil(path)
			}
			to := d.goodPlace()
			if n := len(path); n > 0 && d.Intn(8) > 0 {
				to = at(path[n-1].Sw, path[n-1].Out)
			}
			if d.Intn(2) == 0 {
				via = nil
			}
			want := modelGood(l, from, to, path, via)
			good(t, want, l, from, to, path, via...)
			counts[want]++
		}
		if t.Failed() {
			t.Fatal(seed, l)
		}
	}
	if counts[true] < 2000 || counts[false] < 2000 {
		t.Error("too few:", counts)
	}
}

// P22.4: there is a path wherever links lead, and none is shorter: held against how many links away each switch is.
func TestShortestByChance(t *testing.T) {
	for seed := range int64(600) {
		d := dice{rand.New(rand.NewSource(seed)), 2 + int(seed%7), 1 + int(seed/8%6)}
		l := d.links()
		from := d.goodPlace()
		away := map[int]int{from.Sw: 0}
		for n := 0; n < 8; n++ {
			for a, b := range leadsTo(l) {
				if k, ok := away[a.Sw]; ok && k == n {
					if _, there := away[b.Sw]; !there {
						away[b.Sw] = n + 1
					}
				}
			}
		}
		for _, to := range all() {
			path, e := route.Path(l, from, to)
			n, ok := away[to.Sw]
			if !ok || to == from {
				if e != api.ErrPath {
					t.Fatalf("%v to %v on %v: %v, %d", from, to, l, path, e)
				}
				continue
			}
			if e != api.OK || len(path) != n+1 || !modelGood(l, from, to, path, nil) {
				t.Fatalf("%v to %v on %v: %v, %d; it is %d links away", from, to, l, path, e, n)
			}
		}
	}
}
