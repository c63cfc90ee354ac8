package entry_test

import (
	"cmp"
	"math/rand"
	"slices"
	"testing"

	"ostiary/api"
	"ostiary/entry"
)

// model is a table as the chapter tells it: a plain list, in order.
type model struct {
	l    []entry.Entry
	most int
}

// find is the number of the entry of a port and a key; -1, if there is none.
func (m *model) find(port int, k api.Key) int {
	for i, e := range m.l {
		if e.Port == port && e.Key == k {
			return i
		}
	}
	return -1
}

func before(a, b entry.Entry) int {
	return cmp.Or(cmp.Compare(a.Port, b.Port), cmp.Compare(a.Key.Src, b.Key.Src), cmp.Compare(a.Key.Dst, b.Key.Dst), cmp.Compare(a.Key.SrcIp, b.Key.SrcIp), cmp.Compare(a.Key.DstIp, b.Key.DstIp),
		cmp.Compare(a.Key.Proto, b.Key.Proto), cmp.Compare(a.Key.Sport, b.Key.Sport), cmp.Compare(a.Key.Dport, b.Key.Dport))
}

func (m *model) add(e entry.Entry, now int64) api.Errno {
	for _, n := range []int{e.Port, e.Out} {
		if n < 1 || n > 8 {
			return api.ErrArg
		}
	}
	for _, n := range []int{e.Idle, e.Hard, e.Key.Sport, e.Key.Dport} {
		if n < 0 || n > 65535 {
			return api.ErrArg
		}
	}
	if ports := e.Key.Proto == 6 || e.Key.Proto == 17; e.Key.Proto < 0 || e.Key.Proto > 255 || !ports && (e.Key.Sport != 0 || e.Key.Dport != 0) {
		return api.ErrArg
	}
	i := m.find(e.Port, e.Key)
	if i < 0 && len(m.l) >= m.most {
		return api.ErrFull
	}
	if i >= 0 {
		m.l = slices.Delete(m.l, i, i+1)
	}
	e.Born, e.Used = now, now
	m.l = append(m.l, e)
	slices.SortFunc(m.l, before)
	return api.OK
}

func over(e entry.Entry, now int64) bool {
	if e.Hard != 0 && now >= e.Born+int64(e.Hard) {
		return true
	}
	return e.Idle != 0 && now >= e.Used+int64(e.Idle)
}

func (m *model) match(port int, tag int64, k api.Key, now int64) (entry.Entry, bool) {
	i := m.find(port, k)
	if i < 0 || over(m.l[i], now) {
		return entry.Entry{}, false
	}
	want := int64(m.l[i].Epoch)
	if m.l[i].Enter {
		want = -1
	}
	if tag != want {
		return entry.Entry{}, false
	}
	m.l[i].Used = now
	return m.l[i], true
}

func (m *model) drop(goes func(entry.Entry) bool) []entry.Entry {
	var went, left []entry.Entry
	for _, e := range m.l {
		if goes(e) {
			went = append(went, e)
		} else {
			left = append(left, e)
		}
	}
	m.l = left
	return went
}

// dice makes arguments of which many are alike.
type dice struct{ *rand.Rand }

func (d dice) number(l ...int) int { return l[d.Intn(len(l))] }

func (d dice) key() api.Key {
	k := api.Key{Src: api.Mac(d.Intn(2)), Dst: api.Mac(d.Intn(2)) << 40, SrcIp: api.Ip(d.Intn(2)), Proto: d.number(1, 6, 6, 17)}
	if k.Proto != 1 || d.Intn(9) == 0 {
		k.Dport = d.number(0, 0, 80, 80, 65536)
	}
	return k
}

func (d dice) entry() entry.Entry {
	e := entry.Entry{Port: 1 + d.Intn(3), Key: d.key(), Enter: d.Intn(2) == 0, Last: d.Intn(2) == 0, Out: 1 + d.Intn(3), Epoch: uint32(d.Intn(2))}
	e.Idle, e.Hard = d.number(0, 0, 2, 5, 9), d.number(0, 0, 3, 8, 20)
	if d.Intn(12) == 0 {
		e.Port = d.number(-1, 0, 8, 9)
	}
	if d.Intn(12) == 0 {
		e.Out = d.number(-1, 0, 8, 9)
	}
	if d.Intn(12) == 0 {
		e.Idle = d.number(-1, 65535, 65536)
	}
	if d.Intn(12) == 0 {
		e.Hard = d.number(-1, 65535, 65536)
	}
	e.Born, e.Used = int64(d.Intn(9)), int64(d.Intn(9))
	return e
}

func TestByChance(t *testing.T) {
	counts := map[string]int{}
	for seed := range int64(60) {
		d := dice{rand.New(rand.NewSource(seed))}
		m := &model{most: 1 + d.Intn(20)}
		x := entry.New(m.most)
		now := int64(d.Intn(9))
		for range 400 {
			step(t, d, x, m, now, counts)
			has(t, x, m.l...)
			if t.Failed() {
				t.FailNow()
			}
			now += int64(d.Intn(3) / 2 * d.Intn(5))
		}
	}
	for _, what := range []string{"added", "anew", "refused", "full", "matched", "missed", "over", "ticked", "flushed", "cut"} {
		if counts[what] < 40 {
			t.Error("too few:", what, counts)
		}
	}
}

// step does one thing by chance to both.
func step(t *testing.T, d dice, x *entry.Table, m *model, now int64, counts map[string]int) {
	t.Helper()
	switch n := d.Intn(100); {
	case n < 40:
		e := d.entry()
		there := m.find(e.Port, e.Key) >= 0
		want := m.add(e, now)
		adds(t, x, e, now, want)
		switch {
		case want == api.ErrArg:
			counts["refused"]++
		case want == api.ErrFull:
			counts["full"]++
		case there:
			counts["anew"]++
		default:
			counts["added"]++
		}
	case n < 85:
		e := d.entry()
		if len(m.l) > 0 && d.Intn(3) > 0 {
			e = m.l[d.Intn(len(m.l))]
		}
		tag := int64(d.Intn(4)) - 1
		if i := m.find(e.Port, e.Key); i >= 0 && over(m.l[i], now) {
			counts["over"]++
		}
		if want, ok := m.match(e.Port, tag, e.Key, now); ok {
			matches(t, x, e.Port, tag, e.Key, now, want)
			counts["matched"]++
		} else {
			misses(t, x, e.Port, tag, e.Key, now)
			counts["missed"]++
		}
	case n < 95:
		want := m.drop(func(e entry.Entry) bool { return over(e, now) })
		gone(t, x.Tick(now), want...)
		counts["ticked"] += len(want)
	case n < 99:
		port := d.Intn(6) - 1
		want := m.drop(func(e entry.Entry) bool { return e.Port == port || e.Out == port })
		gone(t, x.Cut(port), want...)
		counts["cut"] += len(want)
	default:
		want := m.drop(func(entry.Entry) bool { return true })
		gone(t, x.Flush(), want...)
		counts["flushed"] += len(want)
	}
}
