package cable_test

import (
	"cmp"
	"math/rand"
	"slices"
	"testing"

	"ostiary/api"
	"ostiary/cable"
)

// model is a net as the chapter tells it: a plain list of cables, as they were joined, and where machines are.
type model struct {
	cables []api.Link
	hosts  map[int]api.Place
}

func before(a, b api.Place) int {
	return cmp.Or(cmp.Compare(a.Sw, b.Sw), cmp.Compare(a.Port, b.Port))
}

func may(p api.Place) bool { return slices.Contains(all(), p) }

func (m *model) other(p api.Place) cable.End {
	for _, c := range m.cables {
		if c.A == p {
			return cable.End{Kind: 1, Place: c.B}
		}
		if c.B == p {
			return cable.End{Kind: 1, Place: c.A}
		}
	}
	for host := range 16 {
		if at, ok := m.hosts[host]; ok && at == p {
			return cable.End{Kind: 2, Host: host}
		}
	}
	return cable.End{}
}

func (m *model) join(a, b api.Place) api.Errno {
	if !may(a) || !may(b) || a == b {
		return api.ErrArg
	}
	if m.other(a) != (cable.End{}) || m.other(b) != (cable.End{}) {
		return api.ErrThere
	}
	m.cables = append(m.cables, link(a, b))
	return api.OK
}

func (m *model) attach(host int, p api.Place) api.Errno {
	if host < 0 || host > 15 || !may(p) {
		return api.ErrArg
	}
	if _, ok := m.hosts[host]; ok || m.other(p) != (cable.End{}) {
		return api.ErrThere
	}
	m.hosts[host] = p
	return api.OK
}

func (m *model) pull(p api.Place) cable.End {
	e := m.other(p)
	m.cables = slices.DeleteFunc(m.cables, func(c api.Link) bool { return c.A == p || c.B == p })
	if e.Kind == 2 {
		delete(m.hosts, e.Host)
	}
	return e
}

func (m *model) links() []api.Link {
	var l []api.Link
	for _, c := range m.cables {
		l = append(l, lesser(c.A, c.B))
	}
	return ordered(l...)
}

// dice throws arguments: often ports of few switches, so that much is there already.
type dice struct {
	*rand.Rand
	wide bool
}

func (d dice) place() api.Place {
	if d.Intn(15) == 0 {
		l := bad()
		return l[d.Intn(len(l))]
	}
	if d.wide {
		return all()[d.Intn(64)]
	}
	return at(1+7*d.Intn(2), 1+d.Intn(8))
}

func TestByChance(t *testing.T) {
	counts := map[string]int{}
	for seed := range int64(60) {
		d := dice{rand.New(rand.NewSource(seed)), seed%2 == 0}
		n, m := cable.New(), &model{hosts: map[int]api.Place{}}
		for range 150 {
			step(t, d, n, m, counts)
			has(t, n, m.links(), m.hosts)
			if t.Failed() {
				t.FailNow()
			}
		}
	}
	for _, what := range []string{"joined", "attached", "refused", "there", "unjoined", "detached", "nothing"} {
		if counts[what] < 40 {
			t.Error("too few:", what, counts)
		}
	}
}

// step does one thing by chance to both.
func step(t *testing.T, d dice, n *cable.Net, m *model, counts map[string]int) {
	t.Helper()
	words := map[api.Errno]string{api.ErrArg: "refused", api.ErrThere: "there"}
	switch d.Intn(3) {
	case 0:
		a, b := d.place(), d.place()
		words[api.OK] = "joined"
		want := m.join(a, b)
		joins(t, n, a, b, want)
		counts[words[want]]++
	case 1:
		host, p := d.Intn(18)-1, d.place()
		words[api.OK] = "attached"
		want := m.attach(host, p)
		attaches(t, n, host, p, want)
		counts[words[want]]++
	case 2:
		p := d.place()
		want := m.pull(p)
		pulls(t, n, p, want)
		counts[[]string{"nothing", "unjoined", "detached"}[want.Kind]]++
	}
}
