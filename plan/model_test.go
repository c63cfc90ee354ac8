package plan_test

import (
	"math/rand"
	"slices"
	"testing"

	"ostiary/api"
	"ostiary/ctl"
	"ostiary/ledger"
	"ostiary/plan"
)

// job is a plan as the chapter tells it: the messages that are still to be told as done, the one that is now behind all others.
type job struct {
	id   uint32
	left []ctl.Msg
	when int64 // of the last time that it was said, or less than 0
}

// model is plans: a plain list of jobs, by their numbers.
type model struct {
	retry int64
	seq   uint32
	jobs  []*job
}

func (m *model) of(id uint32) int {
	return slices.IndexFunc(m.jobs, func(j *job) bool { return j.id == id })
}

// number gives the message that is now its number.
func (m *model) number(j *job) {
	m.seq++
	j.left[len(j.left)-1].Seq = m.seq
	j.when = -1
}

func (m *model) start(f ledger.Flow, lives plan.Lives, idle, hard int) api.Errno {
	if m.of(f.Id) >= 0 {
		return api.ErrThere
	}
	if len(m.jobs) == 1024 {
		return api.ErrFull
	}
	j := &job{id: f.Id}
	for i, h := range f.Path {
		if h.Sw < 1 || h.Sw > 8 {
			return api.ErrArg
		}
		x := ctl.Msg{Kind: ctl.Add, Sw: h.Sw, Life: lives[h.Sw], Epoch: f.Epoch, Port: h.In, Out: h.Out, Idle: idle, Hard: hard, Key: f.Key}
		if i == 0 {
			x.Enter = true
		}
		if i == len(f.Path)-1 {
			x.Last = true
		}
		if !ctl.May(x) {
			return api.ErrArg
		}
		j.left = append(j.left, x)
	}
	if len(j.left) == 0 {
		return api.ErrArg
	}
	m.number(j)
	m.jobs = append(m.jobs, j)
	slices.SortFunc(m.jobs, func(a, b *job) int { return int(int64(a.id) - int64(b.id)) })
	return api.OK
}

func (m *model) next(now int64) []ctl.Msg {
	var l []ctl.Msg
	for _, j := range m.jobs {
		if j.when < 0 || j.when+m.retry <= now {
			j.when = now
			l = append(l, j.left[len(j.left)-1])
		}
	}
	return l
}

func (m *model) done(x ctl.Msg) (uint32, bool) {
	for i, j := range m.jobs {
		last := j.left[len(j.left)-1]
		if j.when < 0 || last.Sw != x.Sw || last.Life != x.Life || last.Epoch != x.Epoch || last.Seq != x.Seq {
			continue
		}
		j.left = j.left[:len(j.left)-1]
		if len(j.left) == 0 {
			m.jobs = slices.Delete(m.jobs, i, i+1)
			return j.id, true
		}
		m.number(j)
		return j.id, false
	}
	return 0, false
}

func (m *model) ids() []uint32 {
	var l []uint32
	for _, j := range m.jobs {
		l = append(l, j.id)
	}
	return l
}

// both is plans and their model, with what was said ever.
type both struct {
	*rand.Rand
	m      *model
	p      *plan.Plans
	now    int64
	said   []ctl.Msg
	counts map[string]int
}

// some is a flow of a few numbers and hops, now and then one that may not be.
func (b *both) some() ledger.Flow {
	f := flow(uint32(b.Intn(30)), 1+b.Intn(6))
	f.Epoch = uint32(b.Intn(3))
	for i := range f.Path {
		f.Path[i] = api.Hop{Sw: 1 + b.Intn(8), In: 1 + b.Intn(8), Out: 1 + b.Intn(8)}
	}
	if b.Intn(8) == 0 {
		l := changes()
		f.Path = hops(5)
		l[b.Intn(len(l))](&f)
	}
	return f
}

func (b *both) start(t *testing.T) {
	t.Helper()
	f, v := b.some(), plan.Lives{}
	for i := range v {
		v[i] = uint32(1 + b.Intn(3))
	}
	idle, hard := b.Intn(65536), b.Intn(65536)
	if b.Intn(20) == 0 {
		idle = []int{-1, 65536}[b.Intn(2)]
	}
	e := b.m.start(f, v, idle, hard)
	starting(t, b.p, f, v, idle, hard, e)
	b.counts[map[api.Errno]string{api.OK: "started", api.ErrThere: "there", api.ErrArg: "none", api.ErrFull: "full"}[e]]++
}

func (b *both) next(t *testing.T) {
	t.Helper()
	b.now += b.Int63n(2 * b.m.retry)
	l := b.m.next(b.now)
	says(t, b.p, b.now, l...)
	b.said = append(b.said, l...)
	b.counts["said"] += len(l)
	for _, x := range l { // P27.3: all others were told as done
		if j := b.m.jobs[slices.IndexFunc(b.m.jobs, func(j *job) bool { return j.left[len(j.left)-1].Seq == x.Seq })]; x.Enter != (len(j.left) == 1) {
			t.Error("ahead of others", x, j)
		}
	}
}

// done tells something that was said not long ago, or something like it.
func (b *both) done(t *testing.T) {
	t.Helper()
	if len(b.said) == 0 {
		return
	}
	x := b.said[len(b.said)-1-b.Intn(min(len(b.said), 25))]
	if b.Intn(3) == 0 {
		x = others(x)[b.Intn(20)]
	}
	id, whole := b.m.done(x)
	does(t, b.p, x, id, whole)
	switch {
	case whole:
		b.counts["whole"]++
	case id != 0:
		b.counts["done"]++
	default:
		b.counts["not done"]++
	}
}

func TestByChance(t *testing.T) {
	counts := map[string]int{}
	for seed := range int64(100) {
		r := rand.New(rand.NewSource(seed))
		retry := 1 + r.Int63n(20)
		b := &both{Rand: r, m: &model{retry: retry}, p: plan.New(retry), counts: counts}
		for range 400 {
			switch k := r.Intn(100); {
			case k < 25:
				b.start(t)
			case k < 50:
				b.next(t)
			case k < 99:
				b.done(t)
			default:
				counts["cleared"] += len(b.m.jobs)
				clears(t, b.p, b.m.ids()...)
				b.m.jobs = nil
			}
			waiting(t, b.p, b.m.ids()...)
			if t.Failed() {
				t.FailNow()
			}
		}
	}
	for _, what := range []string{"started", "there", "none", "said", "done", "not done", "whole", "cleared"} {
		if counts[what] < 100 {
			t.Error("too few:", what, counts)
		}
	}
}

// switches put in what comes to them; what is said, and what is told, is lost by chance (P27.3: no switch has a hop ahead of all those behind it).
func TestTheEndFirst(t *testing.T) {
	for seed := range int64(40) {
		r := rand.New(rand.NewSource(seed))
		p := plan.New(1 + r.Int63n(5))
		left := map[uint32]int{} // how many hops of a flow are not put in
		for id := range uint32(1 + r.Intn(10)) {
			n := 1 + r.Intn(10)
			starts(t, p, flow(id, n))
			left[id] = n
		}
		whole := 0
		for now := int64(0); len(p.Waiting()) > 0; now++ {
			if now > 5000 {
				t.Fatal("it never comes", p.Waiting())
			}
			for _, m := range p.Next(now) {
				id := m.Epoch - 1000
				hop := slices.Index(flow(id, 10).Path, api.Hop{Sw: m.Sw, In: m.Port, Out: m.Out})
				if hop > left[id] || hop < left[id]-1 || m.Enter != (hop == 0) {
					t.Fatal("ahead of others", m, left)
				}
				if r.Intn(3) == 0 {
					continue // it did not come
				}
				left[id] = hop
				for range r.Intn(3) { // what is told is lost, or doubled
					if got, is := p.Done(m.Sw, m.Life, m.Epoch, m.Seq); is {
						whole++
						if got != id || left[id] != 0 {
							t.Fatal("whole", got, id, left)
						}
					}
				}
			}
		}
		if whole != len(left) {
			t.Error(whole, left)
		}
	}
}
