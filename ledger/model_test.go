package ledger_test

import (
	"math/rand"
	"testing"

	"ostiary/api"
	"ostiary/flow"
	"ostiary/ledger"
)

// model is a ledger as the chapter tells it: a plain list of flows, as they came.
type model struct {
	most  int
	epoch uint32
	count uint32 // how many there were ever
	l     []ledger.Flow
}

func (m *model) find(k api.Key) (ledger.Flow, bool) {
	for _, f := range m.l {
		if f.Key == k {
			return f, true
		}
	}
	return none, false
}

func (m *model) admit(f ledger.Flow) api.Errno {
	_, there := m.find(f.Key)
	switch {
	case !flow.Good(f.Key), len(f.Path) == 0:
		return api.ErrArg
	case f.Epoch != m.epoch:
		return api.ErrStale
	case there:
		return api.ErrThere
	case len(m.l) == m.most:
		return api.ErrFull
	}
	m.count++
	m.l = append(m.l, as(m.count, f))
	return api.OK
}

// by throws a flow of few keys, and now and then one that may not be, or is of another epoch.
func (m *model) by(r *rand.Rand) ledger.Flow {
	k := key(r.Intn(10))
	if r.Intn(3) == 0 {
		k = flow.Back(k)
	}
	f := let(k, m.epoch, r.Intn(6))
	f.Id, f.Rule = r.Uint32(), r.Intn(64)
	f.Path = f.Path[:1+r.Intn(3)]
	switch r.Intn(20) {
	case 0:
		f.Path = nil
	case 1:
		f.Key = noKeys()[r.Intn(len(noKeys()))]
	case 2, 3:
		f.Epoch += uint32(r.Intn(3)) - 1
	}
	return f
}

func TestByChance(t *testing.T) {
	counts := map[api.Errno]int{}
	gone := 0
	for seed := range int64(60) {
		r := rand.New(rand.NewSource(seed))
		m := &model{most: 1 + r.Intn(12)}
		g := ledger.New(m.most)
		for range 200 {
			if r.Intn(12) == 0 {
				epoch := m.epoch + uint32(r.Intn(4)) - 1
				if epoch > m.epoch {
					gone += len(m.l)
					begins(t, g, epoch, m.l...)
					m.epoch, m.l = epoch, nil
				} else {
					begins(t, g, epoch)
				}
			} else {
				f := m.by(r)
				e := m.admit(f)
				counts[e]++
				if e == api.OK {
					admits(t, g, f, m.count)
				} else {
					refuses(t, g, f, e)
				}
			}
			has(t, g, m.epoch, m.l...)
			if t.Failed() {
				t.FailNow()
			}
		}
	}
	for _, e := range []api.Errno{api.OK, api.ErrArg, api.ErrStale, api.ErrThere, api.ErrFull} {
		if counts[e] < 100 || gone < 100 {
			t.Error("too few:", e, counts, gone)
		}
	}
}
