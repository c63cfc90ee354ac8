package ledger_test

import (
	"math"
	"slices"
	"testing"

	"ostiary/api"
	"ostiary/audit"
	"ostiary/flow"
	"ostiary/ledger"
	"ostiary/pol"
)

// none is what is told where there is no flow.
var none ledger.Flow

// key is the number i's key; of any two numbers neither is the other one's way back.
func key(i int) api.Key {
	return api.Key{Src: 1, Dst: 2, SrcIp: 11, DstIp: 12, Proto: api.Tcp, Sport: 1000 + i, Dport: 80}
}

// let is a flow as it is asked for, in an epoch.
func let(k api.Key, epoch uint32, act int) ledger.Flow {
	return ledger.Flow{
		Epoch: epoch, Key: k,
		From: api.Place{Sw: 1, Port: 2}, To: api.Place{Sw: 3, Port: 4},
		Src: audit.Who{User: "ann", Host: "h1"}, Dst: audit.Who{User: "bob", Host: "h2"},
		Act: act, Rule: 5,
		Path: []api.Hop{{Sw: 1, In: 2, Out: 5}, {Sw: 2, In: 6, Out: 7}, {Sw: 3, In: 8, Out: 4}},
	}
}

// as is a flow with its number.
func as(id uint32, f ledger.Flow) ledger.Flow {
	f.Id = id
	return f
}

// equal holds two flows against one another by all that they have, as Same is asked about itself.
func equal(a, b ledger.Flow) bool {
	return a.Id == b.Id && a.Epoch == b.Epoch && a.Key == b.Key && a.From == b.From && a.To == b.To &&
		a.Src == b.Src && a.Dst == b.Dst && a.Act == b.Act && a.Rule == b.Rule && slices.Equal(a.Path, b.Path)
}

func same(t *testing.T, what string, l, want []ledger.Flow) {
	t.Helper()
	if !slices.EqualFunc(l, want, equal) {
		t.Errorf("%s: %v, not %v", what, l, want)
	}
}

func begins(t *testing.T, g *ledger.Ledger, epoch uint32, want ...ledger.Flow) {
	t.Helper()
	same(t, "Begin", g.Begin(epoch), want)
}

// admits wants the next number.
func admits(t *testing.T, g *ledger.Ledger, f ledger.Flow, id uint32) ledger.Flow {
	t.Helper()
	x, e := g.Admit(f)
	if e != api.OK || !equal(x, as(id, f)) {
		t.Errorf("Admit(%v): %v, %d; not as %d", f, x, e, id)
	}
	return as(id, f)
}

func refuses(t *testing.T, g *ledger.Ledger, f ledger.Flow, want api.Errno) {
	t.Helper()
	if x, e := g.Admit(f); e != want || !equal(x, none) {
		t.Errorf("Admit(%v): %v, %d; not %d", f, x, e, want)
	}
}

// has fails unless just these flows are there, and each call that asks says so.
func has(t *testing.T, g *ledger.Ledger, epoch uint32, flows ...ledger.Flow) {
	t.Helper()
	if e := g.Epoch(); e != epoch {
		t.Errorf("Epoch: %d, not %d", e, epoch)
	}
	same(t, "All", g.All(), flows)
	byKey, byId := map[api.Key]ledger.Flow{}, map[uint32]ledger.Flow{}
	for _, f := range flows {
		byKey[f.Key], byId[f.Id] = f, f
		if f.Epoch != epoch {
			t.Errorf("of another epoch: %v", f)
		}
	}
	if len(byKey) != len(flows) || len(byId) != len(flows) { // P26.4
		t.Errorf("two have something in common: %v", flows)
	}
	asked := keys()
	for k := range byKey {
		asked = append(asked, k, flow.Back(k))
	}
	for _, k := range asked {
		want, is := byKey[k]
		f, ok := g.Find(k)
		told(t, "Find", f, ok, want, is)
		want, is = byKey[flow.Back(k)]
		if want.Act != 3 {
			want, is = none, false
		}
		f, ok = g.Reply(k)
		told(t, "Reply", f, ok, want, is)
	}
	for _, id := range append(ids(), uint32(len(flows))) {
		want, is := byId[id]
		f, ok := g.Of(id)
		told(t, "Of", f, ok, want, is)
	}
}

func told(t *testing.T, what string, f ledger.Flow, ok bool, want ledger.Flow, is bool) {
	t.Helper()
	if ok != is || !equal(f, want) {
		t.Errorf("%s: %v, %t; not %v, %t", what, f, ok, want, is)
	}
}

func ids() []uint32 {
	l := []uint32{1 << 16, 1<<16 + 1, 1 << 31, math.MaxUint32}
	for id := range uint32(40) {
		l = append(l, id)
	}
	return l
}

// keys are some that are asked for: each unlike key(0) in one thing.
func keys() []api.Key {
	l := []api.Key{{}}
	for i := range 7 {
		k := key(0)
		switch i {
		case 0:
			k.Src = 3
		case 1:
			k.Dst = 3
		case 2:
			k.SrcIp = 13
		case 3:
			k.DstIp = 13
		case 4:
			k.Proto = api.Udp
		case 5:
			k.Sport = 999
		case 6:
			k.Dport = 81
		}
		l = append(l, k, flow.Back(k))
	}
	return append(l, key(0), flow.Back(key(0)))
}

// noKeys are none that a flow may have.
func noKeys() []api.Key {
	var l []api.Key
	for i := range 11 {
		k := key(0)
		switch i {
		case 0:
			k.Src = 1 << 48
		case 1:
			k.Dst = math.MaxUint64
		case 2:
			k.Proto = -1
		case 3:
			k.Proto = 256
		case 4:
			k.Proto = 1 // it has ports
		case 5:
			k.Proto, k.Sport = 1, 0
		case 6:
			k.Proto, k.Dport = 1, 0
		case 7:
			k.Sport = -1
		case 8:
			k.Sport = 65536
		case 9:
			k.Dport = math.MinInt
		case 10:
			k.Dport = math.MaxInt
		}
		l = append(l, k)
	}
	return l
}

func TestExample(t *testing.T) {
	g := ledger.New(10)
	begins(t, g, 1)
	f := admits(t, g, let(key(0), 1, pol.Outbound), 1)
	x, ok := g.Reply(flow.Back(key(0)))
	told(t, "Reply", x, ok, f, true)
	begins(t, g, 2, f)
	has(t, g, 2)
}

// Of a nil ledger.
func TestNilLedger(t *testing.T) {
	var g *ledger.Ledger
	for _, epoch := range ids() {
		begins(t, g, epoch)
		refuses(t, g, let(key(0), epoch, pol.Allow), api.ErrNil)
	}
	refuses(t, g, none, api.ErrNil)
	has(t, g, 0)
}

func TestNew(t *testing.T) {
	g := ledger.New(10)
	has(t, g, 0)
	begins(t, g, 0)
	has(t, g, 0)
	f := admits(t, g, let(key(0), 0, pol.Allow), 1)
	has(t, g, 0, f)
	begins(t, g, 0)
	has(t, g, 0, f)
}

// P26.1.

func TestBegin(t *testing.T) {
	g := ledger.New(10)
	epoch := uint32(0)
	for _, next := range []uint32{1, 2, 7, 1 << 16, 1<<16 + 1, 1 << 31, 1<<31 + 1, math.MaxUint32 - 1, math.MaxUint32} {
		begins(t, g, next)
		has(t, g, next)
		for _, elder := range []uint32{0, 1, 2, epoch, next - 1, next} {
			if elder <= next {
				begins(t, g, elder)
				has(t, g, next)
			}
		}
		epoch = next
	}
}

func TestBeginTellsThoseThatGo(t *testing.T) {
	g := ledger.New(10)
	begins(t, g, 5)
	var l []ledger.Flow
	for i, n := range []int{5, 3, 9, 1} {
		l = append(l, admits(t, g, let(key(n), 5, pol.Allow+i), uint32(i+1)))
	}
	has(t, g, 5, l...)
	for _, epoch := range []uint32{5, 4, 0} {
		begins(t, g, epoch)
		has(t, g, 5, l...)
	}
	begins(t, g, 6, l...)
	has(t, g, 6)
	begins(t, g, 7)
	f := admits(t, g, let(key(5), 7, pol.Allow), 5) // numbers go on
	has(t, g, 7, f)
	begins(t, g, 100, f)
	has(t, g, 100)
	has(t, g, 100, admits(t, g, let(key(5), 100, pol.Allow), 6))
}

func TestAdmit(t *testing.T) {
	g := ledger.New(1024)
	begins(t, g, 3)
	l := []ledger.Flow{}
	for i, k := range keys() {
		f := let(k, 3, pol.Allow+i%4)
		f.Id = uint32(100 - i) // whatever it says
		l = append(l, admits(t, g, f, uint32(i+1)))
		has(t, g, 3, l...)
	}
	for _, k := range keys() {
		refuses(t, g, let(k, 3, pol.Allow), api.ErrThere)
	}
	has(t, g, 3, l...)
}

// What else a flow has is not asked about.
func TestAdmitAnything(t *testing.T) {
	g := ledger.New(10)
	has(t, g, 0, admits(t, g, ledger.Flow{Path: []api.Hop{{}}}, 1))
	f := let(key(0), 0, -7)
	f.From, f.To, f.Src, f.Dst, f.Rule = api.Place{Sw: -1}, api.Place{Port: 99}, audit.Who{}, audit.Who{User: "No name"}, math.MinInt
	f.Path = make([]api.Hop, 100)
	has(t, g, 0, as(1, ledger.Flow{Path: []api.Hop{{}}}), admits(t, g, f, 2))
}

func TestAdmitOfNone(t *testing.T) {
	g := ledger.New(2)
	begins(t, g, 3)
	l := []ledger.Flow{admits(t, g, let(key(0), 3, pol.Allow), 1)}
	for full := range 2 {
		for _, k := range noKeys() {
			refuses(t, g, let(k, 3, pol.Allow), api.ErrArg)
			refuses(t, g, let(k, 4, pol.Allow), api.ErrArg) // ahead of ErrStale
		}
		for _, k := range []api.Key{key(0), key(1), key(7)} {
			f := let(k, 3, pol.Allow)
			f.Path = nil
			refuses(t, g, f, api.ErrArg)
			f.Path = []api.Hop{}
			refuses(t, g, f, api.ErrArg)
			f.Epoch = 2
			refuses(t, g, f, api.ErrArg)
			for _, epoch := range []uint32{0, 2, 4, 1<<16 + 3, math.MaxUint32} { // ahead of ErrThere and ErrFull
				refuses(t, g, let(k, epoch, pol.Allow), api.ErrStale)
			}
		}
		refuses(t, g, let(key(0), 3, pol.Deny), api.ErrThere) // ahead of ErrFull
		has(t, g, 3, l...)
		if full == 0 {
			l = append(l, admits(t, g, let(key(1), 3, pol.Allow), 2)) // what was refused had no number
		}
	}
	refuses(t, g, let(key(2), 3, pol.Allow), api.ErrFull)
	has(t, g, 3, l...)
	begins(t, g, 4, l...)
	refuses(t, g, let(key(2), 3, pol.Allow), api.ErrStale)
	has(t, g, 4, admits(t, g, let(key(2), 4, pol.Allow), 3))
}

func TestRoom(t *testing.T) {
	for _, c := range []struct{ most, room int }{
		{math.MinInt, 1}, {-1024, 1}, {-1, 1}, {0, 1}, {1, 1}, {2, 2}, {3, 3}, {255, 255}, {1023, 1023}, {1024, 1024}, {1025, 1024}, {1 << 16, 1024}, {1<<32 + 1, 1024}, {math.MaxInt, 1024},
	} {
		g := ledger.New(c.most)
		for epoch := range uint32(2) {
			begun := g.Begin(epoch)
			for i := range c.room {
				admits(t, g, let(key(i), epoch, pol.Allow), epoch*uint32(c.room)+uint32(i+1))
			}
			refuses(t, g, let(key(c.room), epoch, pol.Allow), api.ErrFull)
			refuses(t, g, let(key(c.room-1), epoch, pol.Allow), api.ErrThere)
			if n := len(g.All()); n != c.room || len(begun) != int(epoch)*c.room {
				t.Errorf("New(%d): room for %d, not %d; %d went", c.most, n, c.room, len(begun))
			}
		}
	}
}

// P26.2.

func TestReply(t *testing.T) {
	g := ledger.New(10)
	begins(t, g, 1)
	var l []ledger.Flow
	for i, act := range []int{pol.Allow, pol.Outbound, pol.Deny, pol.Via, 0, -3, 5, 7} {
		l = append(l, admits(t, g, let(key(i), 1, act), uint32(i+1)))
	}
	has(t, g, 1, l...)
	// The way back of an Outbound flow is a flow of its own, whatever that one's Act is.
	l = append(l, admits(t, g, let(flow.Back(key(1)), 1, pol.Allow), 9))
	has(t, g, 1, l...)
	l = append(l, admits(t, g, let(flow.Back(key(0)), 1, pol.Outbound), 10))
	has(t, g, 1, l...)
}

// A key may be its own way back.
func TestReplyToItself(t *testing.T) {
	k := api.Key{Src: 1, Dst: 1, SrcIp: 11, DstIp: 11, Proto: api.Udp, Sport: 5, Dport: 5}
	for _, act := range []int{pol.Allow, pol.Outbound} {
		g := ledger.New(10)
		has(t, g, 0, admits(t, g, let(k, 0, act), 1))
		x, ok := g.Reply(k)
		if ok != (act == pol.Outbound) || ok != (x.Id == 1) {
			t.Error(act, x, ok)
		}
	}
}

func TestFindNoKey(t *testing.T) {
	g := ledger.New(10)
	f := admits(t, g, let(key(0), 0, pol.Outbound), 1)
	for _, k := range noKeys() {
		x, ok := g.Find(k)
		told(t, "Find", x, ok, none, false)
		x, ok = g.Reply(flow.Back(k))
		told(t, "Reply", x, ok, none, false)
	}
	has(t, g, 0, f)
}

// P26.3.

func TestRec(t *testing.T) {
	f := as(77, let(key(0), 6, pol.Via))
	for _, now := range []int64{0, 5, api.MaxTime - 1, -1, math.MaxInt64, math.MinInt64} {
		r := f.Rec(now)
		want := audit.Rec{Kind: 10, Time: now, Epoch: 6, Flow: 77, Rule: 5, From: f.From, To: f.To, Src: f.Src, Dst: f.Dst, Key: f.Key, Path: f.Path}
		if !audit.Same(r, want) {
			t.Errorf("Rec(%d): %v, not %v", now, r, want)
		}
		if audit.May(r) != (now >= 0 && now < api.MaxTime) {
			t.Errorf("Rec(%d): may it be?", now)
		}
	}
	if r := none.Rec(0); !audit.Same(r, audit.Rec{Kind: audit.Admit}) {
		t.Error(r)
	}
}

func TestRecIsApart(t *testing.T) {
	f := let(key(0), 6, pol.Via)
	r := f.Rec(5)
	r.Path[0].Sw = 8
	if !equal(f, let(key(0), 6, pol.Via)) {
		t.Error("what is written into a record is seen in the flow")
	}
	f.Path[1].Sw = 7
	if r.Path[1].Sw != 2 {
		t.Error("what is written into a flow is seen in the record")
	}
}

// others are flows that are unlike f in one thing each.
func others(f ledger.Flow) []ledger.Flow {
	var l []ledger.Flow
	for i := range 24 {
		x := f
		x.Path = slices.Clone(f.Path)
		switch i {
		case 0:
			x.Id++
		case 1:
			x.Epoch++
		case 2, 3, 4, 5, 6, 7, 8:
			x.Key = keys()[2*i-3]
		case 9:
			x.From.Sw++
		case 10:
			x.From.Port++
		case 11:
			x.To.Sw++
		case 12:
			x.To.Port++
		case 13:
			x.Src.User = "eve"
		case 14:
			x.Src.Host = "h3"
		case 15:
			x.Dst.User = "eve"
		case 16:
			x.Dst.Host = "h3"
		case 17:
			x.Act++
		case 18:
			x.Rule++
		case 19:
			x.Path[0].Sw++
		case 20:
			x.Path[1].In++
		case 21:
			x.Path[2].Out++
		case 22:
			x.Path = x.Path[:2]
		case 23:
			x.Path = append(x.Path, api.Hop{})
		}
		l = append(l, x)
	}
	return l
}

func TestSame(t *testing.T) {
	f := as(3, let(key(0), 6, pol.Via))
	l := append(others(f), f, none, ledger.Flow{Path: []api.Hop{{}}})
	for i, a := range l {
		for j, b := range l {
			b.Path = slices.Clone(b.Path)
			if ledger.Same(a, b) != (i == j) {
				t.Errorf("Same(%v, %v): %t", a, b, i != j)
			}
		}
	}
	if !ledger.Same(ledger.Flow{Path: []api.Hop{}}, none) {
		t.Error("a nil list is an empty one")
	}
}

// P26.5.
func TestNumbersNeverComeAgain(t *testing.T) {
	g := ledger.New(3)
	id := uint32(0)
	for epoch := range uint32(50) {
		g.Begin(epoch)
		for i := range int(epoch % 5) {
			f := let(key(i), epoch, pol.Allow)
			f.Id = 1
			if i == 3 {
				refuses(t, g, f, api.ErrFull)
				continue
			}
			id++
			admits(t, g, f, id)
			refuses(t, g, f, api.ErrThere)
		}
	}
}

// The rules that hold everywhere.

func spoil(l ...ledger.Flow) {
	for i := range l {
		path := l[i].Path[:cap(l[i].Path)]
		for j := range path {
			path[j] = api.Hop{Sw: 99, In: 99, Out: 99}
		}
		l[i] = ledger.Flow{Id: 99}
	}
}

func TestNoListIsShared(t *testing.T) {
	g := ledger.New(10)
	f := let(key(0), 0, pol.Outbound)
	x, _ := g.Admit(f)
	want := as(1, let(key(0), 0, pol.Outbound))
	spoil(f)
	has(t, g, 0, want)
	spoil(x)
	has(t, g, 0, want)
	x, _ = g.Find(key(0))
	y, _ := g.Of(1)
	z, _ := g.Reply(flow.Back(key(0)))
	for _, x := range []ledger.Flow{x, y, z} {
		if !equal(x, want) {
			t.Error(x)
		}
		spoil(x)
		has(t, g, 0, want)
	}
	l := g.All()
	spoil(g.All()...)
	has(t, g, 0, want)
	same(t, "All", l, []ledger.Flow{want})
	gone := g.Begin(1)
	admits(t, g, let(key(1), 1, pol.Allow), 2)
	spoil(l...)
	same(t, "Begin", gone, []ledger.Flow{want})
	spoil(gone[:cap(gone)]...)
	has(t, g, 1, as(2, let(key(1), 1, pol.Allow)))
}

func TestTwoLedgersAreTwo(t *testing.T) {
	a, b := ledger.New(10), ledger.New(10)
	f := admits(t, a, let(key(0), 0, pol.Allow), 1)
	has(t, b, 0)
	begins(t, b, 5)
	x := admits(t, b, let(key(0), 5, pol.Allow), 1)
	has(t, a, 0, f)
	has(t, b, 5, x)
}

// P1: calls end at all arguments, also of a ledger that New did not make.
func TestAnyArguments(t *testing.T) {
	for _, g := range []*ledger.Ledger{nil, {}, ledger.New(1), ledger.New(10)} {
		for _, epoch := range append(ids(), 0) {
			g.Begin(epoch)
			for _, k := range append(keys(), noKeys()...) {
				g.Admit(let(k, g.Epoch(), pol.Outbound))
				g.Admit(ledger.Flow{Key: k})
				g.Find(k)
				g.Reply(k)
			}
			g.Of(epoch)
			g.All()
		}
	}
	ledger.Flow{Act: math.MinInt, Rule: math.MaxInt, Key: noKeys()[0]}.Rec(math.MinInt64)
}
