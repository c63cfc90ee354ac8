package entry_test

import (
	"math"
	"slices"
	"testing"

	"ostiary/api"
	"ostiary/entry"
)

var goodKey = api.Key{Src: 0x0A0B0C0D0E0F, Dst: 0x1A1B1C1D1E1F, SrcIp: 0x0A000001, DstIp: 0x0A000002, Proto: api.Tcp, Sport: 4000, Dport: 80}

// badKeys may not be: of each field one that is beyond.
var badKeys = []api.Key{
	{Src: api.Anybody + 1}, {Src: math.MaxUint64}, {Dst: api.Anybody + 1},
	{Proto: -1}, {Proto: 256}, {Proto: api.Tcp, Sport: -1}, {Proto: api.Tcp, Sport: 65536},
	{Proto: api.Udp, Dport: -1}, {Proto: api.Udp, Dport: 65536}, {Proto: 1, Sport: 1}, {Proto: 1, Dport: 1},
	{Proto: math.MinInt}, {Proto: api.Tcp, Dport: math.MaxInt},
}

// base is an entry that may be, of each field something that is not zero.
func base() entry.Entry {
	return entry.Entry{Port: 3, Key: goodKey, Last: true, Out: 5, Epoch: 9, Idle: 20, Hard: 50}
}

// numbered is the key of a flow that has no other number.
func numbered(n int) api.Key { return api.Key{SrcIp: api.Ip(n)} }

func at(e entry.Entry, born, used int64) entry.Entry {
	e.Born, e.Used = born, used
	return e
}

func adds(t *testing.T, x *entry.Table, e entry.Entry, now int64, want api.Errno) {
	t.Helper()
	if got := x.Add(e, now); got != want {
		t.Errorf("Add(%+v, %d): %d, not %d", e, now, got, want)
	}
}

// has fails unless these entries are there, in this order.
func has(t *testing.T, x *entry.Table, want ...entry.Entry) {
	t.Helper()
	if got := x.All(); !slices.Equal(got, want) || x.Len() != len(want) {
		t.Errorf("%+v, Len %d; not %+v", got, x.Len(), want)
	}
}

func gone(t *testing.T, got []entry.Entry, want ...entry.Entry) {
	t.Helper()
	if !slices.Equal(got, want) {
		t.Errorf("%+v went, not %+v", got, want)
	}
}

func matches(t *testing.T, x *entry.Table, port int, tag int64, k api.Key, now int64, want entry.Entry) {
	t.Helper()
	if got, ok := x.Match(port, tag, k, now); got != want || !ok {
		t.Errorf("Match(%d, %d, %+v, %d): %+v, %t; not %+v", port, tag, k, now, got, ok, want)
	}
}

func misses(t *testing.T, x *entry.Table, port int, tag int64, k api.Key, now int64) {
	t.Helper()
	before := x.All()
	if got, ok := x.Match(port, tag, k, now); ok || got != (entry.Entry{}) {
		t.Errorf("Match(%d, %d, %+v, %d): %+v, %t", port, tag, k, now, got, ok)
	}
	has(t, x, before...)
}

func TestExample(t *testing.T) {
	x := entry.New(4)
	e := entry.Entry{Port: 1, Key: goodKey, Enter: true, Out: 2, Idle: 5}
	adds(t, x, e, 10, api.OK)
	matches(t, x, 1, entry.Untagged, goodKey, 14, at(e, 10, 14))
	misses(t, x, 1, entry.Untagged, goodKey, 19)
}

func TestUntagged(t *testing.T) {
	if entry.Untagged != -1 {
		t.Error(entry.Untagged)
	}
}

// Of a nil table.
func TestNilTable(t *testing.T) {
	var x *entry.Table
	adds(t, x, base(), 0, api.ErrNil)
	adds(t, x, entry.Entry{}, 0, api.ErrNil) // ahead of ErrArg
	adds(t, x, entry.Entry{Key: badKeys[0], Port: math.MinInt}, math.MinInt64, api.ErrNil)
	for _, now := range []int64{math.MinInt64, -1, 0, 1, api.MaxTime, math.MaxInt64} {
		for _, n := range []int{math.MinInt, -1, 0, 1, 8, 9, math.MaxInt} {
			misses(t, x, n, now, goodKey, now)
			misses(t, x, n, entry.Untagged, badKeys[1], now)
			gone(t, x.Cut(n))
		}
		gone(t, x.Tick(now))
	}
	gone(t, x.Flush())
	has(t, x)
}

// A table has so many entries at most as was said, from 1 to 1024.
func TestMost(t *testing.T) {
	for most, room := range map[int]int{
		math.MinInt: 1, -1 << 40: 1, -1: 1, 0: 1, 1: 1, 2: 2, 3: 3, 17: 17, 1023: 1023, 1024: 1024, 1025: 1024, 1 << 20: 1024, 1<<32 + 1: 1024, math.MaxInt: 1024,
	} {
		x := entry.New(most)
		has(t, x)
		for n := range room {
			e := base()
			e.Key = numbered(n)
			adds(t, x, e, 1, api.OK)
			if x.Len() != n+1 {
				t.Fatalf("%d of %d: %d", n, most, x.Len())
			}
		}
		all := x.All()
		e := base()
		e.Key = numbered(room)
		adds(t, x, e, 1, api.ErrFull)
		has(t, x, all...)
	}
}

// P17.1.

func TestAdd(t *testing.T) {
	x := entry.New(4)
	e := base()
	adds(t, x, e, 7, api.OK)
	has(t, x, at(e, 7, 7))
	f := entry.Entry{Port: 8, Enter: true, Out: 1}
	adds(t, x, f, 9, api.OK)
	has(t, x, at(e, 7, 7), at(f, 9, 9))
}

// Born and Used are when it was added, whatever is handed in.
func TestAddOfAnEntryThatWasBorn(t *testing.T) {
	x := entry.New(4)
	adds(t, x, at(base(), 3, 4), 7, api.OK)
	has(t, x, at(base(), 7, 7))
	adds(t, x, at(base(), math.MinInt64, math.MaxInt64), 0, api.OK)
	has(t, x, at(base(), 0, 0))
	adds(t, x, at(base(), -1, -1), api.MaxTime, api.OK)
	has(t, x, at(base(), api.MaxTime, api.MaxTime))
}

// changes are of all that an entry has beside port and key.
var changes = []func(e *entry.Entry){
	func(e *entry.Entry) { e.Enter = !e.Enter }, func(e *entry.Entry) { e.Last = !e.Last }, func(e *entry.Entry) { e.Out = 7 },
	func(e *entry.Entry) { e.Out = e.Port }, func(e *entry.Entry) { e.Epoch++ }, func(e *entry.Entry) { e.Epoch = 0 }, func(e *entry.Entry) { e.Epoch = math.MaxUint32 },
	func(e *entry.Entry) { e.Idle = 0 }, func(e *entry.Entry) { e.Hard = 0 }, func(e *entry.Entry) { e.Idle, e.Hard = 65535, 65535 },
}

func TestAddInPlaceOfWhatThereWas(t *testing.T) {
	x := entry.New(2)
	other := base()
	other.Port = 8
	adds(t, x, base(), 7, api.OK)
	adds(t, x, other, 7, api.OK) // it is full from now on
	for i, change := range changes {
		e, now := base(), int64(20+i)
		change(&e)
		adds(t, x, e, now, api.OK)
		has(t, x, at(e, now, now), at(other, 7, 7))
	}
	adds(t, x, base(), 5, api.OK) // also if what there was is younger
	has(t, x, at(base(), 5, 5), at(other, 7, 7))
}

// What was matched begins anew, too, and so does what is over.
func TestAddAnew(t *testing.T) {
	x := entry.New(1)
	adds(t, x, base(), 0, api.OK)
	matches(t, x, 3, 9, goodKey, 10, at(base(), 0, 10))
	adds(t, x, base(), 60, api.OK)
	has(t, x, at(base(), 60, 60))
	matches(t, x, 3, 9, goodKey, 79, at(base(), 60, 79))
}

// otherKeys are unlike the good one in one field each.
func otherKeys() []api.Key {
	l := make([]api.Key, 7)
	for i := range l {
		l[i] = goodKey
	}
	l[0].Src++
	l[1].Dst++
	l[2].SrcIp++
	l[3].DstIp++
	l[4].Proto = api.Udp
	l[5].Sport++
	l[6].Dport++
	return l
}

func TestAddOfOthers(t *testing.T) {
	x := entry.New(1024)
	n := 0
	for port := 1; port <= 8; port++ {
		for _, k := range append(otherKeys(), goodKey) {
			e := base()
			e.Port, e.Key = port, k
			adds(t, x, e, int64(n), api.OK)
			n++
			if x.Len() != n {
				t.Errorf("port %d, %+v: %d, not %d", port, k, x.Len(), n)
			}
		}
	}
}

func TestAddOfWhatMayBe(t *testing.T) {
	for _, change := range append([]func(e *entry.Entry){
		func(e *entry.Entry) { e.Port = 1 }, func(e *entry.Entry) { e.Port = 8 }, func(e *entry.Entry) { e.Out = 1 }, func(e *entry.Entry) { e.Out = 8 },
		func(e *entry.Entry) { e.Idle = 1 }, func(e *entry.Entry) { e.Hard = 1 }, func(e *entry.Entry) { e.Key = api.Key{} },
		func(e *entry.Entry) {
			e.Key = api.Key{Src: api.Anybody, Dst: api.Anybody, SrcIp: math.MaxUint32, DstIp: math.MaxUint32, Proto: api.Udp, Sport: 65535, Dport: 65535}
		},
		func(e *entry.Entry) { e.Key = api.Key{Proto: 255} }, func(e *entry.Entry) { e.Key = api.Key{Proto: api.Tcp} },
	}, changes...) {
		e := base()
		change(&e)
		x := entry.New(1)
		adds(t, x, e, 3, api.OK)
		has(t, x, at(e, 3, 3))
	}
}

// badEntries may not be, each for one reason.
func badEntries() []entry.Entry {
	var l []entry.Entry
	for _, n := range []int{math.MinInt, -1 << 32, -1, 0, 9, 256 + 3, 1<<32 + 3, math.MaxInt} {
		e, f := base(), base()
		e.Port, f.Out = n, n
		l = append(l, e, f)
	}
	for _, n := range []int{math.MinInt, -65536, -1, 65536, 1 << 32, math.MaxInt} {
		e, f := base(), base()
		e.Idle, f.Hard = n, n
		l = append(l, e, f)
	}
	for _, k := range badKeys {
		e := base()
		e.Key = k
		l = append(l, e)
	}
	return append(l, entry.Entry{})
}

func TestErrArg(t *testing.T) {
	empty, full := entry.New(3), entry.New(1)
	adds(t, full, base(), 7, api.OK)
	for _, e := range badEntries() {
		adds(t, empty, e, 8, api.ErrArg)
		adds(t, full, e, 8, api.ErrArg) // ahead of ErrFull
	}
	has(t, empty)
	has(t, full, at(base(), 7, 7))
}

func TestErrFull(t *testing.T) {
	x := entry.New(2)
	e, f, g := base(), base(), base()
	f.Port, g.Key = 4, numbered(1)
	adds(t, x, e, 1, api.OK)
	adds(t, x, f, 2, api.OK)
	adds(t, x, g, 3, api.ErrFull)
	for _, k := range otherKeys() {
		g.Key = k
		adds(t, x, g, 3, api.ErrFull)
	}
	g = base()
	g.Port = 5
	adds(t, x, g, 3, api.ErrFull)
	has(t, x, at(e, 1, 1), at(f, 2, 2))
	x.Cut(4)
	adds(t, x, g, 4, api.OK)
	has(t, x, at(e, 1, 1), at(g, 4, 4))
}

// The order is by port, then by key: by its fields, the first one that is unlike counts.
func TestOrder(t *testing.T) {
	keys := []api.Key{
		{},
		{Dport: 1, Proto: api.Tcp}, {Dport: 255, Proto: api.Tcp}, {Dport: 256, Proto: api.Tcp}, {Dport: 65535, Proto: api.Tcp},
		{Sport: 1, Proto: api.Tcp}, {Sport: 255, Dport: 1, Proto: api.Tcp}, {Sport: 256, Proto: api.Tcp}, {Sport: 65535, Proto: api.Tcp},
		{Proto: 7}, {Proto: api.Udp, Sport: 9}, {Proto: 128}, {Proto: 255},
		{DstIp: 1}, {DstIp: 0x80}, {DstIp: 0x100}, {DstIp: 0x80000000},
		{SrcIp: 1}, {SrcIp: 1, DstIp: 1}, {SrcIp: 0x80}, {SrcIp: 0x100}, {SrcIp: 0x80000000},
		{Dst: 1}, {Dst: 1, Proto: 1}, {Dst: 0x7F}, {Dst: 0x80}, {Dst: 0xFF00}, {Dst: 0xFF0000000000}, {Dst: api.Anybody},
		{Src: 1}, {Src: 0x7FFF}, {Src: 0x8000}, {Src: 0xC3BF}, {Src: 0x10000}, {Src: 0x7FFFFFFFFFFF}, {Src: 0x800000000000, SrcIp: 1}, {Src: api.Anybody},
	}
	x, back := entry.New(1024), entry.New(1024)
	var want []entry.Entry
	for port := 1; port <= 8; port++ {
		for _, k := range keys {
			want = append(want, at(entry.Entry{Port: port, Key: k, Out: 9 - port}, 2, 2))
		}
	}
	for i := range want {
		adds(t, x, want[i], 2, api.OK)
		adds(t, back, want[len(want)-1-i], 2, api.OK)
	}
	has(t, x, want...)
	has(t, back, want...)
	gone(t, x.Cut(7), append(slices.Clone(want[len(keys):2*len(keys)]), want[6*len(keys):7*len(keys)]...)...)
	gone(t, back.Flush(), want...)
}

// P17.2, P17.4.

func TestMatchByPortAndKey(t *testing.T) {
	x := entry.New(9)
	e, f := base(), base()
	f.Port, f.Out = 4, 6
	adds(t, x, e, 1, api.OK)
	adds(t, x, f, 1, api.OK)
	matches(t, x, 3, 9, goodKey, 5, at(e, 1, 5))
	matches(t, x, 4, 9, goodKey, 6, at(f, 1, 6))
	for _, port := range []int{math.MinInt, -3, -1, 0, 1, 2, 5, 8, 9, 33, 34, 256 + 3, 1<<32 + 3, math.MaxInt} { // its Out is no port of an entry
		misses(t, x, port, 9, goodKey, 6)
	}
	for _, k := range append(otherKeys(), badKeys...) {
		misses(t, x, 3, 9, k, 6)
	}
	misses(t, x, 3, 9, api.Key{}, 6)
	has(t, x, at(e, 1, 5), at(f, 1, 6))
}

// Numbers of which only some bits are looked at would be those of another key.
func TestMatchByKeysThatMayNotBe(t *testing.T) {
	x := entry.New(9)
	e := base()
	adds(t, x, e, 1, api.OK)
	z := entry.Entry{Port: 3, Out: 1, Epoch: 9}
	adds(t, x, z, 1, api.OK)
	for _, change := range []func(k *api.Key){
		func(k *api.Key) { k.Src += 1 << 48 }, func(k *api.Key) { k.Dst += 1 << 48 }, func(k *api.Key) { k.Proto += 256 }, func(k *api.Key) { k.Proto -= 256 },
		func(k *api.Key) { k.Sport += 65536 }, func(k *api.Key) { k.Dport += 65536 }, func(k *api.Key) { k.Sport -= 65536 }, func(k *api.Key) { k.Dport += 1 << 32 },
	} {
		k, zero := goodKey, api.Key{}
		change(&k)
		change(&zero)
		misses(t, x, 3, 9, k, 2)
		misses(t, x, 3, 9, zero, 2)
	}
}

func TestMatchByTag(t *testing.T) {
	tags := []int64{math.MinInt64, -1 << 32, -2, -1, 0, 1, 8, 9, 10, math.MaxUint32 - 1, math.MaxUint32, 1 << 32, 1<<32 + 9, 1<<33 - 1, math.MaxInt64}
	for _, epoch := range []uint32{0, 1, 9, math.MaxUint32} {
		for _, enter := range []bool{false, true} {
			for _, last := range []bool{false, true} {
				e := entry.Entry{Port: 2, Key: goodKey, Enter: enter, Last: last, Out: 1, Epoch: epoch}
				x := entry.New(2)
				adds(t, x, e, 4, api.OK)
				for _, tag := range tags {
					if enter && tag == -1 || !enter && tag == int64(epoch) {
						matches(t, x, 2, tag, goodKey, 5, at(e, 4, 5))
					} else {
						misses(t, x, 2, tag, goodKey, 6)
					}
				}
			}
		}
	}
}

// Used is now from then on: of the one that was matched alone, and only if it was.
func TestMatchUses(t *testing.T) {
	x := entry.New(3)
	e, f, g := base(), base(), base()
	f.Key, g.Port = numbered(1), 1
	for _, e := range []entry.Entry{e, f, g} {
		adds(t, x, e, 2, api.OK)
	}
	matches(t, x, 3, 9, goodKey, 6, at(e, 2, 6))
	has(t, x, at(g, 2, 2), at(f, 2, 2), at(e, 2, 6))
	misses(t, x, 3, 8, goodKey, 7)
	misses(t, x, 3, entry.Untagged, goodKey, 7)
	matches(t, x, 1, 9, goodKey, 7, at(g, 2, 7))
	matches(t, x, 3, 9, goodKey, 9, at(e, 2, 9))
	has(t, x, at(g, 2, 7), at(f, 2, 2), at(e, 2, 9))
	matches(t, x, 3, 9, goodKey, 8, at(e, 2, 8)) // also if that is less
	has(t, x, at(g, 2, 7), at(f, 2, 2), at(e, 2, 8))
}

// P17.5, and when a time is over.

func timed(idle, hard int) entry.Entry {
	e := base()
	e.Idle, e.Hard = idle, hard
	return e
}

// lasts fails unless an entry that was added at 100 is matched, and stays, at all times ahead of end, and neither from then on.
func lasts(t *testing.T, e entry.Entry, end int64) {
	t.Helper()
	for _, now := range []int64{100, 101, end - 2, end - 1, end, end + 1, end + 100, 1 << 20, api.MaxTime} {
		if now < 100 || now > api.MaxTime {
			continue
		}
		x := entry.New(1)
		adds(t, x, e, 100, api.OK)
		if now < end {
			matches(t, x, e.Port, int64(e.Epoch), e.Key, now, at(e, 100, now))
			x.Add(e, 100)
			gone(t, x.Tick(now))
			has(t, x, at(e, 100, 100))
		} else {
			misses(t, x, e.Port, int64(e.Epoch), e.Key, now)
			has(t, x, at(e, 100, 100)) // it goes by Tick alone
			gone(t, x.Tick(now), at(e, 100, 100))
			has(t, x)
		}
	}
}

func TestWhenATimeIsOver(t *testing.T) {
	for _, ticks := range []int{1, 2, 5, 255, 256, 65535} {
		end := int64(100 + ticks)
		lasts(t, timed(ticks, 0), end)
		lasts(t, timed(0, ticks), end)
		lasts(t, timed(ticks, ticks), end)
		lasts(t, timed(min(ticks+1, 65535), ticks), end)
		lasts(t, timed(ticks, min(ticks+1, 65535)), end)
	}
	lasts(t, timed(0, 0), api.MaxTime+1)
}

// Idle counts from when it was matched last, Hard from when it was added.
func TestIdleAndHard(t *testing.T) {
	x := entry.New(1)
	e := timed(5, 12)
	adds(t, x, e, 10, api.OK)
	for _, now := range []int64{14, 18, 21} {
		matches(t, x, 3, 9, goodKey, now, at(e, 10, now))
		gone(t, x.Tick(now))
	}
	misses(t, x, 3, 9, goodKey, 22)
	gone(t, x.Tick(22), at(e, 10, 21))

	e = timed(5, 0)
	adds(t, x, e, 10, api.OK)
	matches(t, x, 3, 9, goodKey, 14, at(e, 10, 14))
	misses(t, x, 3, 8, goodKey, 16) // what is not matched does not count
	misses(t, x, 3, 9, goodKey, 19)
	gone(t, x.Tick(18))
	gone(t, x.Tick(19), at(e, 10, 14))

	e = timed(0, 12)
	adds(t, x, e, 10, api.OK)
	matches(t, x, 3, 9, goodKey, 21, at(e, 10, 21))
	misses(t, x, 3, 9, goodKey, 22)
	gone(t, x.Tick(21))
	gone(t, x.Tick(22), at(e, 10, 21))
}

// An entry that is over is there, and takes its room, till Tick comes.
func TestOverWithoutTick(t *testing.T) {
	x := entry.New(1)
	e, f := timed(1, 0), timed(0, 1)
	f.Key = numbered(1)
	adds(t, x, e, 0, api.OK)
	misses(t, x, 3, 9, goodKey, 1)
	misses(t, x, 3, 9, goodKey, api.MaxTime)
	adds(t, x, f, 5, api.ErrFull)
	has(t, x, at(e, 0, 0))
	gone(t, x.Tick(5), at(e, 0, 0))
	adds(t, x, f, 5, api.OK)
	has(t, x, at(f, 5, 5))
}

func TestAtTheEndsOfTime(t *testing.T) {
	x := entry.New(4)
	e := timed(65535, 65535)
	adds(t, x, e, 0, api.OK)
	matches(t, x, 3, 9, goodKey, 0, at(e, 0, 0))
	misses(t, x, 3, 9, goodKey, api.MaxTime)
	gone(t, x.Tick(api.MaxTime), at(e, 0, 0))
	adds(t, x, e, api.MaxTime, api.OK)
	matches(t, x, 3, 9, goodKey, api.MaxTime, at(e, api.MaxTime, api.MaxTime))
	gone(t, x.Tick(api.MaxTime))
	gone(t, x.Tick(0)) // less than when it was added
	matches(t, x, 3, 9, goodKey, 0, at(e, api.MaxTime, 0))
}

// P17.3.

// several is a table of five: at port 1, 2, 2, 3, 3, out at 2, 3, 1, 3, 4.
func several(t *testing.T) (*entry.Table, []entry.Entry) {
	x := entry.New(9)
	l := []entry.Entry{
		{Port: 1, Key: numbered(1), Out: 2, Idle: 5}, {Port: 2, Key: numbered(0), Out: 3, Hard: 7}, {Port: 2, Key: numbered(1), Out: 1},
		{Port: 3, Key: numbered(0), Out: 3, Hard: 5}, {Port: 3, Key: numbered(2), Out: 4, Idle: 7, Hard: 9},
	}
	for _, i := range []int{3, 0, 4, 2, 1} {
		adds(t, x, l[i], 0, api.OK)
	}
	has(t, x, l...)
	return x, l
}

func TestTick(t *testing.T) {
	x, l := several(t)
	gone(t, x.Tick(4))
	gone(t, x.Tick(5), l[0], l[3])
	has(t, x, l[1], l[2], l[4])
	gone(t, x.Tick(5))
	matches(t, x, 3, 0, numbered(2), 6, at(l[4], 0, 6))
	gone(t, x.Tick(8), l[1])
	gone(t, x.Tick(9), at(l[4], 0, 6))
	gone(t, x.Tick(api.MaxTime))
	has(t, x, l[2])
}

func TestFlush(t *testing.T) {
	x, l := several(t)
	matches(t, x, 2, 0, numbered(1), 1, at(l[2], 0, 1))
	gone(t, x.Flush(), l[0], l[1], at(l[2], 0, 1), l[3], l[4])
	has(t, x)
	gone(t, x.Flush())
	misses(t, x, 2, 0, numbered(1), 1)
	for n := range 9 { // there is as much room as ever
		adds(t, x, entry.Entry{Port: 1, Out: 1, Key: numbered(n)}, 1, api.OK)
	}
	adds(t, x, entry.Entry{Port: 1, Out: 1, Key: numbered(9)}, 1, api.ErrFull)
}

func TestCut(t *testing.T) {
	for port, numbers := range map[int][]int{
		1: {0, 2}, 2: {0, 1, 2}, 3: {1, 3, 4}, 4: {4}, 5: {}, 8: {}, 0: {}, 9: {}, -1: {}, 1<<32 + 1: {}, 256 + 2: {}, math.MinInt: {}, math.MaxInt: {},
	} {
		x, l := several(t)
		var went, left []entry.Entry
		for i, e := range l {
			if slices.Contains(numbers, i) {
				went = append(went, e)
			} else {
				left = append(left, e)
			}
		}
		gone(t, x.Cut(port), went...)
		has(t, x, left...)
		gone(t, x.Cut(port))
		has(t, x, left...)
	}
}

// The rules that hold everywhere.

// spoil writes into all that a list has, and behind its end.
func spoil(l []entry.Entry) {
	l = l[:cap(l)]
	for i := range l {
		l[i] = entry.Entry{Port: -7}
	}
}

func TestNoListIsShared(t *testing.T) {
	x, l := several(t)
	a, b := x.All(), x.All()
	spoil(a)
	if !slices.Equal(b, l) {
		t.Errorf("%+v", b)
	}
	has(t, x, l...)
	matches(t, x, 2, 0, numbered(1), 1, at(l[2], 0, 1))
	if !slices.Equal(b, l) {
		t.Errorf("%+v", b)
	}
	went := x.Cut(4)
	rest := x.All()
	spoil(went)
	has(t, x, rest...)
	went = x.Tick(5)
	kept := slices.Clone(went)
	spoil(x.Tick(7))
	spoil(x.All())
	spoil(x.Flush())
	adds(t, x, base(), 8, api.OK)
	gone(t, went, kept...)
	has(t, x, at(base(), 8, 8))
}

func TestTwoTablesAreTwo(t *testing.T) {
	x, y := entry.New(2), entry.New(2)
	adds(t, x, base(), 1, api.OK)
	has(t, y)
	misses(t, y, 3, 9, goodKey, 1)
	y.Flush()
	has(t, x, at(base(), 1, 1))
}

// P1: calls end at all arguments, also at times of which nothing is promised.
func TestAnyArguments(t *testing.T) {
	times := []int64{math.MinInt64, math.MinInt64 + 1, -api.MaxTime, -1, 0, 1, api.MaxTime, api.MaxTime + 1, math.MaxInt64 - 1, math.MaxInt64}
	numbers := []int{math.MinInt, -1, 0, 1, 3, 8, 9, 65535, 65536, math.MaxInt}
	for _, x := range []*entry.Table{nil, {}, entry.New(math.MinInt), entry.New(math.MaxInt)} {
		for _, born := range times {
			for _, now := range times {
				for _, n := range numbers {
					e := timed(n, 3)
					x.Add(e, born)
					e.Idle, e.Hard, e.Key.Src = 3, n, api.Mac(n&7)
					x.Add(at(e, now, born), born)
					x.Match(n, now, goodKey, now)
					x.Match(3, born, api.Key{Proto: n, Sport: n}, now)
					x.Match(3, 9, goodKey, now)
					x.Cut(n)
				}
				x.Tick(now)
				x.All()
				x.Len()
			}
			x.Flush()
		}
	}
}
