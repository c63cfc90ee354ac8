package plan_test

import (
	"math"
	"slices"
	"testing"

	"ostiary/api"
	"ostiary/audit"
	"ostiary/ctl"
	"ostiary/ledger"
	"ostiary/plan"
	"ostiary/pol"
)

// lives are such that no two switches have the same one.
var lives = plan.Lives{90, 91, 92, 93, 94, 95, 96, 97, 98}

// There is a life of each switch, by its number, from 1 on, and no more.
var _ [9]uint32 = lives

// The idle and the hard time that most plans here have.
const (
	idle = 7
	hard = 900
)

var key = api.Key{Src: 1, Dst: 2, SrcIp: 11, DstIp: 12, Proto: api.Tcp, Sport: 4000, Dport: 80}

// hops is a path of n hops, each unlike the ones beside it.
func hops(n int) []api.Hop {
	var l []api.Hop
	for i := range n {
		l = append(l, api.Hop{Sw: 1 + i%8, In: 1 + (i+i/8)%8, Out: 1 + (i+3)%8})
	}
	return l
}

// flow is one of a number, an epoch that hangs on it, and n hops.
func flow(id uint32, n int) ledger.Flow {
	return ledger.Flow{
		Id: id, Epoch: 1000 + id, Key: key,
		From: api.Place{Sw: 1, Port: 2}, To: api.Place{Sw: 3, Port: 4},
		Src: audit.Who{User: "ann", Host: "h1"}, Dst: audit.Who{User: "bob", Host: "h2"},
		Act: pol.Allow, Rule: 5, Path: hops(n),
	}
}

// add is the message of a hop of a flow, with a number, as the chapter tells it.
func add(f ledger.Flow, hop int, seq uint32) ctl.Msg {
	h := f.Path[hop]
	return ctl.Msg{
		Kind: 9, Sw: h.Sw, Life: lives[h.Sw], Epoch: f.Epoch, Seq: seq,
		Port: h.In, Out: h.Out, Enter: hop == 0, Last: hop+1 == len(f.Path),
		Idle: idle, Hard: hard, Key: f.Key,
	}
}

func starts(t *testing.T, p *plan.Plans, f ledger.Flow) {
	t.Helper()
	starting(t, p, f, lives, idle, hard, api.OK)
}

func refuses(t *testing.T, p *plan.Plans, f ledger.Flow, want api.Errno) {
	t.Helper()
	starting(t, p, f, lives, idle, hard, want)
}

func starting(t *testing.T, p *plan.Plans, f ledger.Flow, v plan.Lives, idle, hard int, want api.Errno) {
	t.Helper()
	if e := p.Start(f, v, idle, hard); e != want {
		t.Errorf("Start(%v, %v, %d, %d): %d, not %d", f, v, idle, hard, e, want)
	}
}

// says wants just these messages.
func says(t *testing.T, p *plan.Plans, now int64, want ...ctl.Msg) {
	t.Helper()
	if l := p.Next(now); !slices.EqualFunc(l, want, ctl.Same) {
		t.Errorf("Next(%d): %v, not %v", now, l, want)
	}
}

// does tells a message as done, and wants a flow.
func does(t *testing.T, p *plan.Plans, m ctl.Msg, id uint32, whole bool) {
	t.Helper()
	if got, is := p.Done(m.Sw, m.Life, m.Epoch, m.Seq); got != id || is != whole {
		t.Errorf("Done(%d, %d, %d, %d): %d, %t; not %d, %t", m.Sw, m.Life, m.Epoch, m.Seq, got, is, id, whole)
	}
}

func doesNone(t *testing.T, p *plan.Plans, l ...ctl.Msg) {
	t.Helper()
	for _, m := range l {
		does(t, p, m, 0, false)
	}
}

func waiting(t *testing.T, p *plan.Plans, want ...uint32) {
	t.Helper()
	if l := p.Waiting(); !slices.Equal(l, want) {
		t.Errorf("Waiting: %v, not %v", l, want)
	}
}

func clears(t *testing.T, p *plan.Plans, want ...uint32) {
	t.Helper()
	if l := p.Clear(); !slices.Equal(l, want) {
		t.Errorf("Clear: %v, not %v", l, want)
	}
	waiting(t, p)
}

// others are messages that are unlike m in one of the things of which Done is told.
func others(m ctl.Msg) []ctl.Msg {
	var l []ctl.Msg
	for i := range 20 {
		x := m
		switch i {
		case 0:
			x.Sw++
		case 1:
			x.Sw--
		case 2:
			x.Sw = 0
		case 3:
			x.Sw = -m.Sw
		case 4:
			x.Sw += 256
		case 5:
			x.Sw = math.MinInt
		case 6:
			x.Sw = math.MaxInt
		case 7:
			x.Sw += 1 << 32
		case 8:
			x.Life++
		case 9:
			x.Life--
		case 10:
			x.Life ^= 1 << 31
		case 11:
			x.Life = lives[m.Sw-1]
		case 12:
			x.Epoch++
		case 13:
			x.Epoch--
		case 14:
			x.Epoch ^= 1 << 31
		case 15:
			x.Epoch, x.Seq = m.Seq, m.Epoch
		case 16:
			x.Seq++
		case 17:
			x.Seq--
		case 18:
			x.Seq ^= 1 << 31
		case 19:
			x.Seq = 0
		}
		l = append(l, x)
	}
	return l
}

func TestExample(t *testing.T) {
	p := plan.New(5)
	f := flow(7, 2)
	starts(t, p, f)
	second, first := add(f, 1, 1), add(f, 0, 2)
	if !second.Last || second.Enter || !first.Enter || first.Last {
		t.Error(second, first)
	}
	says(t, p, 0, second)
	does(t, p, second, 7, false)
	says(t, p, 0, first)
	does(t, p, first, 7, true)
	waiting(t, p)
}

// Of nil plans.
func TestNilPlans(t *testing.T) {
	var p *plan.Plans
	for n := range 3 {
		f := flow(7, n)
		refuses(t, p, f, api.ErrNil)
		refuses(t, p, ledger.Flow{}, api.ErrNil)
		says(t, p, 0)
		doesNone(t, p, add(flow(7, 2), 1, 1), ctl.Msg{})
		waiting(t, p)
		clears(t, p)
	}
}

// P27.1.

func TestNew(t *testing.T) {
	p := plan.New(5)
	waiting(t, p)
	says(t, p, 0)
	says(t, p, 100)
	doesNone(t, p, ctl.Msg{}, add(flow(7, 2), 1, 1), add(flow(7, 2), 1, 0))
	clears(t, p)
}

func TestRetry(t *testing.T) {
	for _, c := range []struct{ retry, is int64 }{
		{math.MinInt64, 1}, {-65535, 1}, {-1, 1}, {0, 1}, {1, 1}, {2, 2}, {3, 3}, {50, 50}, {255, 255}, {256, 256}, {65534, 65534}, {65535, 65535},
		{65536, 65535}, {65537, 65535}, {1 << 20, 65535}, {1<<32 + 5, 65535}, {api.MaxTime, 65535}, {math.MaxInt64, 65535},
	} {
		for _, begin := range []int64{0, 1, 1000, api.MaxTime - 10*65535} {
			p := plan.New(c.retry)
			f := flow(7, 2)
			starts(t, p, f)
			m := add(f, 1, 1)
			says(t, p, begin, m)
			for _, now := range []int64{begin + c.is, begin + 2*c.is, begin + 5*c.is - 1} { // also if it comes late, the time counts from then on
				says(t, p, now, m)
				says(t, p, now)
				says(t, p, now+c.is-1)
			}
			does(t, p, m, 7, false)
			m, now := add(f, 0, 2), begin+5*c.is
			says(t, p, now, m) // what was not said yet does not wait
			says(t, p, now+c.is-1)
			says(t, p, now+c.is, m)
			does(t, p, m, 7, true)
			says(t, p, now+2*c.is)
		}
	}
}

func TestStart(t *testing.T) {
	for _, n := range []int{1, 2, 3, 8, 60, 61, 64, 300} {
		p := plan.New(5)
		f := flow(7, n)
		starts(t, p, f)
		waiting(t, p, 7)
		for hop := n - 1; hop >= 0; hop-- {
			m := add(f, hop, uint32(n-hop))
			says(t, p, 3, m)
			waiting(t, p, 7)
			does(t, p, m, 7, hop == 0)
		}
		waiting(t, p)
		says(t, p, 100)
	}
}

// Any number of a flow, and any epoch, may be.
func TestStartOfAnyFlow(t *testing.T) {
	p := plan.New(100)
	var want []uint32
	for i, id := range []uint32{math.MaxUint32, 1 << 31, 0, 1 << 16, 5, 1, math.MaxUint32 - 1} {
		f := flow(id, 1)
		f.Epoch = id ^ 77
		starts(t, p, f)
		says(t, p, int64(i), add(f, 0, uint32(i+1)))
		refuses(t, p, f, api.ErrThere)
		want = append(want, id)
		slices.Sort(want)
		waiting(t, p, want...)
		if i%2 == 0 {
			does(t, p, add(f, 0, uint32(i+1)), id, true)
			want = slices.DeleteFunc(want, func(x uint32) bool { return x == id })
			waiting(t, p, want...)
		}
	}
	p = plan.New(5)
	none := ledger.Flow{Path: hops(1)} // all of a key that has nothing may be
	starts(t, p, none)
	says(t, p, 0, add(none, 0, 1))
	does(t, p, add(none, 0, 1), 0, true)
	waiting(t, p)
}

// changes are such that a flow's messages may not be.
func changes() []func(f *ledger.Flow) {
	l := []func(f *ledger.Flow){
		func(f *ledger.Flow) { f.Path = nil },
		func(f *ledger.Flow) { f.Path = []api.Hop{} },
		func(f *ledger.Flow) { f.Path = f.Path[:0] },
		func(f *ledger.Flow) { f.Key.Src = 1 << 48 },
		func(f *ledger.Flow) { f.Key.Dst = math.MaxUint64 },
		func(f *ledger.Flow) { f.Key.Proto = -1 },
		func(f *ledger.Flow) { f.Key.Proto = 256 },
		func(f *ledger.Flow) { f.Key.Proto = 1 }, // it has ports
		func(f *ledger.Flow) { f.Key.Sport = 65536 },
		func(f *ledger.Flow) { f.Key.Dport = -1 },
	}
	for _, v := range []int{0, -1, 9, 8 + 256, 1 + 1<<32, math.MinInt, math.MaxInt} {
		for at := range 5 {
			l = append(l,
				func(f *ledger.Flow) { f.Path[at].Sw = v },
				func(f *ledger.Flow) { f.Path[at].In = v },
				func(f *ledger.Flow) { f.Path[at].Out = v })
		}
	}
	return l
}

func TestStartOfWhatMayNotBe(t *testing.T) {
	p := plan.New(5)
	other := flow(6, 1)
	starts(t, p, other)
	for _, change := range changes() {
		f := flow(7, 5)
		change(&f)
		refuses(t, p, f, api.ErrArg)
		waiting(t, p, 6)
		f.Id = 6
		refuses(t, p, f, api.ErrThere) // ahead of ErrArg
		waiting(t, p, 6)
	}
	for _, v := range []int{-1, 65536, 65536 + 7, math.MinInt, math.MaxInt, 1<<32 + 5} {
		starting(t, p, flow(7, 5), lives, v, hard, api.ErrArg)
		starting(t, p, flow(7, 5), lives, idle, v, api.ErrArg)
		starting(t, p, flow(6, 5), lives, v, v, api.ErrThere)
	}
	says(t, p, 0, add(other, 0, 1))
	f := flow(7, 5)
	starts(t, p, f)
	says(t, p, 0, add(f, 4, 2)) // what was refused had no number
	waiting(t, p, 6, 7)
}

// What a message has not is not asked about.
func TestStartOfOtherFields(t *testing.T) {
	p := plan.New(5)
	f := flow(7, 2)
	f.From, f.To, f.Src, f.Dst = api.Place{Sw: -1}, api.Place{Port: 99}, audit.Who{}, audit.Who{User: "No name"}
	f.Act, f.Rule = math.MinInt, math.MaxInt
	f.Path = []api.Hop{{Sw: 3, In: 2, Out: 2}, {Sw: 3, In: 2, Out: 2}} // whether a way can be gone isn't either
	starts(t, p, f)
	for hop := 1; hop >= 0; hop-- {
		m := add(f, hop, uint32(2-hop))
		says(t, p, 0, m)
		does(t, p, m, 7, hop == 0)
	}
}

func TestStartOfOneThatIsThere(t *testing.T) {
	p := plan.New(5)
	f := flow(7, 3)
	starts(t, p, f)
	x := flow(7, 1)
	x.Key.Dport, x.Epoch = 81, 5
	for hop := 2; hop >= 0; hop-- {
		refuses(t, p, f, api.ErrThere)
		refuses(t, p, x, api.ErrThere)
		m := add(f, hop, uint32(3-hop))
		says(t, p, 0, m)
		refuses(t, p, x, api.ErrThere)
		does(t, p, m, 7, hop == 0)
	}
	starts(t, p, x) // it is whole: there is no plan of it any more
	says(t, p, 0, add(x, 0, 4))
	refuses(t, p, f, api.ErrThere)
	clears(t, p, 7)
	starts(t, p, f)
	says(t, p, 0, add(f, 2, 5))
}

func TestRoom(t *testing.T) {
	p := plan.New(5)
	var ids []uint32
	var l []ctl.Msg
	for i := range uint32(1024) {
		f := flow(5000-i, 2)
		starts(t, p, f)
		ids = append(ids, f.Id)
		l = append(l, add(f, 1, i+1))
	}
	slices.Sort(ids)
	waiting(t, p, ids...)
	none := flow(9, 0)
	refuses(t, p, flow(9, 1), api.ErrFull)
	refuses(t, p, none, api.ErrFull) // ahead of ErrArg
	starting(t, p, flow(9, 1), lives, -1, 0, api.ErrFull)
	refuses(t, p, flow(5000, 1), api.ErrThere) // ahead of ErrFull
	none.Id = 4000
	refuses(t, p, none, api.ErrThere)
	waiting(t, p, ids...)
	slices.Reverse(l)
	says(t, p, 0, l...)
	does(t, p, l[0], ids[0], false)
	refuses(t, p, flow(9, 1), api.ErrFull) // it is there still, with another hop
	m := add(flow(ids[0], 2), 0, 1025)
	says(t, p, 1, m)
	does(t, p, m, ids[0], true)
	none.Id = 9
	refuses(t, p, none, api.ErrArg)
	starts(t, p, flow(9, 1))
	says(t, p, 2, add(flow(9, 1), 0, 1026))
	ids[0] = 9
	waiting(t, p, ids...)
	refuses(t, p, flow(10, 1), api.ErrFull)
	clears(t, p, ids...)
	starts(t, p, flow(10, 1))
	waiting(t, p, 10)
}

// P27.2.

func TestLives(t *testing.T) {
	p := plan.New(5)
	var want []ctl.Msg
	seq := uint32(0)
	for sw := 1; sw <= 8; sw++ {
		for _, v := range []plan.Lives{lives, {}, {1, 1, 1, 1, 1, 1, 1, 1, 1}, {0, 1 << 31, math.MaxUint32, 3, 0, 5, 1 << 16, 7, math.MaxUint32}} {
			seq++
			f := flow(seq, 1)
			f.Path[0].Sw = sw
			starting(t, p, f, v, idle, hard, api.OK)
			m := add(f, 0, seq)
			m.Life = v[sw]
			want = append(want, m)
		}
	}
	says(t, p, 0, want...)
	for _, m := range want {
		x := m
		x.Life++
		doesNone(t, p, x)
		does(t, p, m, m.Seq, true)
	}
}

func TestTimesOfEntries(t *testing.T) {
	p := plan.New(5)
	seq := uint32(0)
	for _, idle := range []int{0, 1, 255, 256, 65534, 65535} {
		for _, hard := range []int{0, 1, 255, 256, 65534, 65535} {
			seq++
			f := flow(seq, 1)
			starting(t, p, f, lives, idle, hard, api.OK)
			m := add(f, 0, seq)
			m.Idle, m.Hard = idle, hard
			says(t, p, 0, m)
		}
	}
}

// Plans are told by their flows' numbers, each as its own time has it.
func TestNextInOrder(t *testing.T) {
	p := plan.New(10)
	f, g, h := flow(300, 3), flow(7, 2), flow(1<<20, 2)
	starts(t, p, f)
	says(t, p, 0, add(f, 2, 1))
	starts(t, p, g)
	says(t, p, 4, add(g, 1, 2))
	starts(t, p, h)
	says(t, p, 9, add(h, 1, 3))
	says(t, p, 10, add(f, 2, 1))
	says(t, p, 18, add(g, 1, 2)) // 14 has passed
	says(t, p, 20, add(f, 2, 1), add(h, 1, 3))
	says(t, p, 40, add(g, 1, 2), add(f, 2, 1), add(h, 1, 3))
	does(t, p, add(h, 1, 3), 1<<20, false)
	does(t, p, add(f, 2, 1), 300, false)
	waiting(t, p, 7, 300, 1<<20)
	says(t, p, 41, add(f, 1, 5), add(h, 0, 4))
	says(t, p, 50, add(g, 1, 2))
	says(t, p, 51, add(f, 1, 5), add(h, 0, 4))
	does(t, p, add(h, 0, 4), 1<<20, true)
	says(t, p, 100, add(g, 1, 2), add(f, 1, 5))
	waiting(t, p, 7, 300)
}

func TestDone(t *testing.T) {
	for _, n := range []int{1, 2, 3, 9} {
		p := plan.New(5)
		f := flow(7, n)
		starts(t, p, f)
		var all []ctl.Msg
		for hop := range n {
			all = append(all, add(f, hop, uint32(n-hop)))
		}
		now := int64(0)
		for hop := n - 1; hop >= 0; hop-- {
			doesNone(t, p, all...) // nothing that is not said
			for _, m := range all {
				doesNone(t, p, others(m)...)
			}
			says(t, p, now, all[hop])
			for i, m := range all {
				doesNone(t, p, others(m)...)
				if i != hop {
					doesNone(t, p, m)
				}
			}
			waiting(t, p, 7)
			says(t, p, now)
			if hop%2 == 0 { // said twice, done once
				now += 5
				says(t, p, now, all[hop])
			}
			does(t, p, all[hop], 7, hop == 0)
			doesNone(t, p, all[hop])
			now++
		}
		doesNone(t, p, all...)
		waiting(t, p)
	}
}

// Of two plans the one whose message it is goes on.
func TestDoneOfMany(t *testing.T) {
	p := plan.New(5)
	var l []ledger.Flow
	for i := range uint32(20) {
		f := flow(100-i, 2)
		f.Epoch = 5 // they are alike but for their numbers
		l = append(l, f)
		starts(t, p, f)
	}
	p.Next(0)
	for i := 19; i >= 0; i -= 2 {
		does(t, p, add(l[i], 1, uint32(i+1)), l[i].Id, false)
	}
	var want []ctl.Msg
	for i := 19; i >= 0; i -= 2 {
		want = append(want, add(l[i], 0, uint32(21+(19-i)/2)))
	}
	says(t, p, 1, want...)
	left := []uint32{}
	for i, m := range want {
		does(t, p, m, l[19-2*i].Id, true)
	}
	for i := 18; i >= 0; i -= 2 {
		left = append(left, l[i].Id)
	}
	waiting(t, p, left...)
}

// A number is given when a hop becomes the one that is now, not when it is said.
func TestNumbers(t *testing.T) {
	p := plan.New(5)
	f, g := flow(9, 2), flow(4, 2)
	starts(t, p, f)
	starts(t, p, g)
	says(t, p, 0, add(g, 1, 2), add(f, 1, 1))
	says(t, p, 5, add(g, 1, 2), add(f, 1, 1)) // said again with the same one
	does(t, p, add(f, 1, 1), 9, false)
	starts(t, p, flow(5, 1))
	does(t, p, add(g, 1, 2), 4, false)
	starts(t, p, flow(6, 1))
	says(t, p, 6, add(g, 0, 5), add(flow(5, 1), 0, 4), add(flow(6, 1), 0, 6), add(f, 0, 3))
	does(t, p, add(f, 0, 3), 9, true) // one that is whole has none behind
	starts(t, p, f)
	says(t, p, 6, add(f, 1, 7))
	clears(t, p, 4, 5, 6, 9)
	doesNone(t, p, add(g, 0, 5), add(flow(5, 1), 0, 4), add(flow(6, 1), 0, 6), add(f, 1, 7))
	starts(t, p, f)
	doesNone(t, p, add(f, 1, 7), add(f, 1, 8))
	says(t, p, 6, add(f, 1, 8)) // they go on over a Clear
	doesNone(t, p, add(f, 1, 7))
	does(t, p, add(f, 1, 8), 9, false)
}

func TestClear(t *testing.T) {
	p := plan.New(5)
	clears(t, p)
	for _, id := range []uint32{5, 1 << 31, 3, 9, 0} {
		starts(t, p, flow(id, 2))
	}
	clears(t, p, 0, 3, 5, 9, 1<<31)
	says(t, p, 0)
	clears(t, p)
	starts(t, p, flow(3, 2))
	clears(t, p, 3)
}

// P27.3, P27.4: all that is said is told as done.
func TestRounds(t *testing.T) {
	for _, n := range []int{1, 2, 5, 60} {
		p := plan.New(5)
		for id := range uint32(10) {
			starts(t, p, flow(id, n))
		}
		told := map[uint32]int{}
		for round := range n {
			for _, m := range p.Next(int64(round)) {
				if m.Enter != (told[m.Epoch-1000] == n-1) {
					t.Error("the first hop is said ahead of others", m, told)
				}
				does(t, p, m, m.Epoch-1000, round == n-1)
				told[m.Epoch-1000]++
			}
		}
		if waiting(t, p); len(told) != 10 {
			t.Error(told)
		}
	}
}

// The rules that hold everywhere.

func TestNoListIsShared(t *testing.T) {
	p := plan.New(5)
	f := flow(7, 3)
	starts(t, p, f)
	starts(t, p, flow(8, 3))
	for i := range f.Path {
		f.Path[i] = api.Hop{Sw: 8, In: 8, Out: 8}
	}
	f = flow(7, 3)
	l := p.Next(0)
	clear(l[:cap(l)])
	says(t, p, 5, add(f, 2, 1), add(flow(8, 3), 2, 2))
	ids := p.Waiting()
	clear(ids[:cap(ids)])
	waiting(t, p, 7, 8)
	does(t, p, add(f, 2, 1), 7, false)
	says(t, p, 5, add(f, 1, 3))
	ids, all := p.Clear(), p.Waiting()
	starts(t, p, flow(5, 1))
	starts(t, p, flow(6, 1))
	if !slices.Equal(ids, []uint32{7, 8}) || len(all) != 0 {
		t.Error(ids, all)
	}
	clear(ids[:cap(ids)])
	waiting(t, p, 5, 6)
}

// What Start is given is not changed.
func TestStartChangesNothing(t *testing.T) {
	p := plan.New(5)
	f := flow(7, 3)
	starts(t, p, f)
	for range 3 {
		for _, m := range p.Next(0) {
			p.Done(m.Sw, m.Life, m.Epoch, m.Seq)
		}
	}
	if waiting(t, p); !ledger.Same(f, flow(7, 3)) {
		t.Error(f)
	}
}

func TestTwoAreTwo(t *testing.T) {
	p, q := plan.New(5), plan.New(5)
	f := flow(7, 2)
	starts(t, p, f)
	waiting(t, q)
	starts(t, q, f)
	says(t, p, 0, add(f, 1, 1))
	doesNone(t, q, add(f, 1, 1))
	says(t, q, 3, add(f, 1, 1))
	clears(t, p, 7)
	waiting(t, q, 7)
	does(t, q, add(f, 1, 1), 7, false)
}

// P1: calls end at all arguments, also of plans that New did not make.
func TestAnyArguments(t *testing.T) {
	nums := []int64{math.MinInt64, -1 << 32, -1, 0, 1, 8, 9, 65535, 65536, 1 << 32, api.MaxTime, math.MaxInt64}
	for _, p := range []*plan.Plans{nil, {}, plan.New(math.MinInt64), plan.New(5), plan.New(math.MaxInt64)} {
		for i, a := range nums {
			for _, b := range nums {
				f := flow(uint32(i), 3)
				f.Path[i%3] = api.Hop{Sw: int(a), In: int(b), Out: int(a)}
				p.Start(f, lives, int(a), int(b))
				p.Start(f, plan.Lives{}, 0, 0)
				p.Start(ledger.Flow{Id: uint32(b), Path: []api.Hop{{Sw: 1, In: int(a), Out: int(b)}}}, lives, 5, 5)
				p.Start(flow(uint32(b), i%4), lives, 5, 5)
				p.Next(a)
				p.Next(b)
				p.Done(int(a), uint32(b), uint32(a), uint32(b))
				p.Waiting()
			}
			p.Clear()
		}
	}
}
