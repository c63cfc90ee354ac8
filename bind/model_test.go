package bind_test

import (
	"math/rand"
	"slices"
	"testing"

	"ostiary/api"
	"ostiary/bind"
)

// model is a table as the chapter tells it: a plain list of bindings, as they came.
type model struct {
	l []bind.Binding
}

// without takes out bindings, and tells them by their Macs.
func (m *model) without(gone func(bind.Binding) bool) []bind.Binding {
	var out, left []bind.Binding
	for _, x := range m.l {
		if gone(x) {
			out = append(out, x)
		} else {
			left = append(left, x)
		}
	}
	m.l = left
	slices.SortFunc(out, byMac)
	return out
}

func (m *model) of(mac api.Mac) *bind.Binding {
	for i := range m.l {
		if m.l[i].Mac == mac {
			return &m.l[i]
		}
	}
	return nil
}

func (m *model) forget(name string) []bind.Binding {
	var was []bind.Binding
	for _, x := range m.l {
		if x.User == name && x.Host != name {
			was = append(was, x)
			m.of(x.Mac).User = ""
		}
	}
	was = append(was, m.without(func(x bind.Binding) bool { return x.Host == name })...)
	slices.SortFunc(was, byMac)
	return was
}

// dice throws arguments: of few machines, ports and names.
type dice struct{ *rand.Rand }

func (d dice) mac() api.Mac { return api.Mac(d.Intn(12)) }

func (d dice) place() api.Place { return port(1+d.Intn(3), 1+d.Intn(4)) }

func (d dice) user() string { return []string{"ann", "bob", "eve", "h1", "zoe"}[d.Intn(5)] }

func (d dice) host() string { return []string{"h1", "h2", "h3", "h4", "ann"}[d.Intn(5)] }

func (d dice) binding(now int64) bind.Binding {
	x := bind.Binding{Mac: d.mac(), Ip: api.Ip(d.Intn(12)), At: d.place(), Host: d.host(), Until: now + d.Int63n(60)}
	if d.Intn(3) == 0 {
		x.User = d.user()
	}
	return x
}

func TestByChance(t *testing.T) {
	counts := map[string]int{}
	for seed := range int64(40) {
		d := dice{rand.New(rand.NewSource(seed))}
		b, m := bind.New(), &model{}
		now := int64(0)
		for range 150 {
			now += d.Int63n(3)
			step(t, d, b, m, now, counts)
			has(t, b, m.l...)
			if t.Failed() {
				t.FailNow()
			}
		}
	}
	for _, what := range []string{"put", "in place of 1", "in place of 2", "in place of 3", "refused", "in", "not in", "out", "not out", "left", "forgot", "over"} {
		if counts[what] < 30 {
			t.Error("too few:", what, counts)
		}
	}
}

// step does one thing by chance to both.
func step(t *testing.T, d dice, b *bind.Table, m *model, now int64, counts map[string]int) {
	t.Helper()
	switch k := d.Intn(16); {
	case k < 7:
		x := d.binding(now)
		gone := m.without(func(o bind.Binding) bool { return x.Mac == o.Mac || x.Ip == o.Ip || x.At == o.At })
		m.l = append(m.l, x)
		puts(t, b, x, api.OK, gone...)
		counts[[]string{"put", "in place of 1", "in place of 2", "in place of 3"}[len(gone)]]++
	case k < 8:
		x := d.binding(now)
		switch d.Intn(4) {
		case 0:
			x.Mac = api.Anybody
		case 1:
			x.At.Port = 9
		case 2:
			x.Host = ""
		case 3:
			x.User = "1"
		}
		puts(t, b, x, api.ErrArg)
		counts["refused"]++
	case k < 11:
		mac, user := d.mac(), d.user()
		x := m.of(mac)
		logsIn(t, b, mac, user, x != nil)
		if x == nil {
			counts["not in"]++
			return
		}
		x.User = user
		counts["in"]++
	case k < 13:
		logOut(t, d.mac(), b, m, counts)
	case k < 14:
		l := []api.Place{d.place(), d.place(), d.place()}[:d.Intn(4)]
		gone := m.without(func(x bind.Binding) bool { return slices.Contains(l, x.At) })
		same(t, "Leave", b.Leave(l...), gone)
		counts["left"] += len(gone)
	case k < 15:
		name := []string{d.user(), d.host()}[d.Intn(2)]
		was := m.forget(name)
		same(t, "Forget", b.Forget(name), was)
		counts["forgot"] += len(was)
	default:
		gone := m.without(func(x bind.Binding) bool { return now >= x.Until })
		same(t, "Tick", b.Tick(now), gone)
		counts["over"] += len(gone)
	}
}

func logOut(t *testing.T, mac api.Mac, b *bind.Table, m *model, counts map[string]int) {
	t.Helper()
	x := m.of(mac)
	if x == nil || x.User == "" {
		logsOut(t, b, mac, none)
		counts["not out"]++
		return
	}
	logsOut(t, b, mac, *x)
	x.User = ""
	counts["out"]++
}
