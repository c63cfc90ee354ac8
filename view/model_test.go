package view_test

import (
	"cmp"
	"math/rand"
	"slices"
	"testing"

	"ostiary/api"
	"ostiary/view"
)

// model is a view as the chapter tells it: a plain list of links, as they were learned, and when each was seen.
type model struct {
	up    map[int]int
	links []api.Link
	seen  map[api.Link]int64
}

// before is the order of A.
func before(a, b api.Link) int {
	return cmp.Or(cmp.Compare(a.A.Sw, b.A.Sw), cmp.Compare(a.A.Port, b.A.Port))
}

func (m *model) isUp(p api.Place) bool {
	return p.Port >= 1 && p.Port <= 8 && m.up[p.Sw]>>(p.Port-1)%2 == 1
}

// without takes out links, and tells them in order.
func (m *model) without(gone func(api.Link) bool) []api.Link {
	var lost, left []api.Link
	for _, l := range m.links {
		if gone(l) {
			lost = append(lost, l)
		} else {
			left = append(left, l)
		}
	}
	m.links = left
	slices.SortFunc(lost, before)
	return lost
}

func (m *model) down(l api.Link) bool { return !m.isUp(l.A) || !m.isUp(l.B) }

func (m *model) ports(sw, up int) []api.Link {
	if sw < 1 || sw > 8 || up < 0 || up > 255 {
		return nil
	}
	m.up[sw] = up
	return m.without(m.down)
}

func (m *model) drop(sw int) []api.Link {
	delete(m.up, sw)
	return m.without(m.down)
}

func (m *model) learn(from, to api.Place, now int64) ([]api.Link, bool) {
	if from == to || !m.isUp(from) || !m.isUp(to) {
		return nil, false
	}
	l := link(from, to)
	if before(l, link(to, from)) > 0 {
		l = link(to, from)
	}
	m.seen[l] = now
	if slices.Contains(m.links, l) {
		return nil, false
	}
	lost := m.without(func(l api.Link) bool {
		return l.A == from || l.B == from || l.A == to || l.B == to
	})
	m.links = append(m.links, l)
	return lost, true
}

func (m *model) age(now, most int64) []api.Link {
	return m.without(func(l api.Link) bool { return now-m.seen[l] > most })
}

// dice throws arguments: of few switches or of all, and now and then wrong ones.
type dice struct {
	*rand.Rand
	switches int
	now      int64
}

func (d *dice) sw() int {
	if d.Intn(20) == 0 {
		l := noSwitches()
		return l[d.Intn(len(l))]
	}
	return 1 + d.Intn(d.switches)
}

func (d *dice) bits() int {
	switch d.Intn(12) {
	case 0:
		return []int{-1, 256, 0, 1 << 40}[d.Intn(4)]
	case 1:
		return d.Intn(256)
	}
	return 255 &^ (1 << d.Intn(8)) // most stay up
}

func (d *dice) place() api.Place {
	if d.Intn(30) == 0 {
		l := bad()
		return l[d.Intn(len(l))]
	}
	return at(d.sw(), 1+d.Intn(8))
}

func TestByChance(t *testing.T) {
	counts := map[string]int{}
	for seed := range int64(80) {
		d := &dice{rand.New(rand.NewSource(seed)), 2 + int(seed%7), 0}
		v, m := view.New(), &model{up: map[int]int{}, seen: map[api.Link]int64{}}
		for range 250 {
			step(t, d, v, m, counts)
			slices.SortFunc(m.links, before)
			has(t, v, m.up, m.links...)
			if t.Failed() {
				t.FailNow()
			}
		}
	}
	for _, what := range []string{"told", "dropped", "learned", "known", "aged", "lost by ports", "lost by drop", "lost by learn", "lost by age", "two lost"} {
		if counts[what] < 100 {
			t.Error("too few:", what, counts)
		}
	}
}

// step does one thing by chance to both.
func step(t *testing.T, d *dice, v *view.View, m *model, counts map[string]int) {
	t.Helper()
	d.now += d.Int63n(4)
	switch k := d.Intn(16); {
	case k < 3:
		sw, up := d.sw(), d.bits()
		want := m.ports(sw, up)
		ports(t, v, sw, up, want...)
		counts["told"]++
		counts["lost by ports"] += len(want)
	case k < 4:
		sw := d.sw()
		want := m.drop(sw)
		drop(t, v, sw, want...)
		counts["dropped"]++
		counts["lost by drop"] += len(want)
	case k < 6:
		most := d.Int63n(100)
		want := m.age(d.now, most)
		age(t, v, d.now, most, want...)
		counts["aged"]++
		counts["lost by age"] += len(want)
	default:
		a, b := d.place(), d.place()
		if n := len(m.links); n > 0 && d.Intn(3) == 0 { // one that is there
			a, b = m.links[d.Intn(n)].B, m.links[d.Intn(n)].A
		}
		learn(t, v, m, a, b, d.now, counts)
	}
}

func learn(t *testing.T, v *view.View, m *model, a, b api.Place, now int64, counts map[string]int) {
	t.Helper()
	want, ok := m.learn(a, b, now)
	if !ok {
		learnsNothing(t, v, a, b, now)
		counts["known"]++
		return
	}
	learns(t, v, a, b, now, want...)
	counts["learned"]++
	counts["lost by learn"] += len(want)
	if len(want) > 1 {
		counts["two lost"]++
	}
}
