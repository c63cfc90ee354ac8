package relay_test

import (
	"bytes"
	"fmt"
	"math"
	"slices"
	"testing"

	"ostiary/api"
	"ostiary/ctl"
	"ostiary/entry"
	"ostiary/flow"
	"ostiary/frame"
	"ostiary/relay"
)

// bytesOf are those of a frame that may be.
func bytesOf(f frame.Frame) []byte {
	b, e := frame.Encode(f)
	if e != api.OK {
		panic(fmt.Sprintf("%+v: %d", f, e))
	}
	return b
}

// tcp is a frame of flow number n; each body is another frame of it.
func tcp(n int, body string) []byte {
	return bytesOf(frame.Frame{Dst: 2, Src: 1, Type: api.TypeIp, Head: frame.Head{Src: 0x0A000001, Dst: 0x0A000002, Proto: api.Tcp}, Ends: frame.Ends{Sport: 4000, Dport: n}, Body: []byte(body)})
}

// keyOf is that of flow number n.
func keyOf(n int) api.Key {
	return api.Key{Src: 1, Dst: 2, SrcIp: 0x0A000001, DstIp: 0x0A000002, Proto: api.Tcp, Sport: 4000, Dport: n}
}

// arp and other have no key.
var (
	arp   = bytesOf(frame.Frame{Dst: api.Anybody, Src: 1, Type: api.TypeArp, Arp: frame.Arp{Op: 1, Sha: 1, Spa: 3, Tpa: 4}})
	other = bytesOf(frame.Frame{Dst: 2, Src: 1, Type: 0x88CC, Body: []byte("what is it?")})
	// nought has the zero key, which is one.
	nought = bytesOf(frame.Frame{Type: api.TypeIp})
)

func forward(port int, tag int64, b []byte) relay.Act {
	return relay.Act{Kind: relay.Forward, Port: port, Tag: tag, Frame: b}
}

func up(m ctl.Msg) relay.Act { return relay.Act{Kind: relay.Up, Msg: m} }

func drop(why api.Errno) relay.Act { return relay.Act{Kind: relay.Drop, Why: why} }

func alike(a, b relay.Act) bool {
	return a.Kind == b.Kind && a.Port == b.Port && a.Tag == b.Tag && a.Why == b.Why && bytes.Equal(a.Frame, b.Frame) && ctl.Same(a.Msg, b.Msg)
}

func acts(t *testing.T, got []relay.Act, want ...relay.Act) {
	t.Helper()
	if !slices.EqualFunc(got, want, alike) {
		t.Errorf("%+v, not %+v", got, want)
	}
}

// is fails unless a switch stands so.
func is(t *testing.T, r *relay.Relay, life, epoch uint32, open bool, ports, held int, l ...entry.Entry) {
	t.Helper()
	if r.Life() != life || r.Epoch() != epoch || r.Open() != open || r.Ports() != ports || r.Held() != held || !slices.Equal(r.Entries(), l) {
		t.Errorf("Life %d, Epoch %d, Open %t, Ports %d, Held %d, Entries %+v; not %d, %d, %t, %d, %d, %+v",
			r.Life(), r.Epoch(), r.Open(), r.Ports(), r.Held(), r.Entries(), life, epoch, open, ports, held, l)
	}
}

func made(t *testing.T, sw, most, miss, quiet int) *relay.Relay {
	t.Helper()
	r, e := relay.New(sw, most, miss, quiet)
	if r == nil || e != api.OK {
		t.Fatalf("New(%d, %d, %d, %d): %v, %d", sw, most, miss, quiet, r, e)
	}
	return r
}

// The switch of most tests: number 5, for 4 entries and 3 frames, silent for 9 ticks; ports 1 to 4 are up; open since 100, in epoch 7.
const ports = 0b1111

func closed(t *testing.T) *relay.Relay {
	t.Helper()
	r := made(t, 5, 4, 3, 9)
	for port := 1; port <= 4; port++ {
		acts(t, r.Plug(port, true, 0))
	}
	return r
}

func opened(t *testing.T) *relay.Relay {
	t.Helper()
	r := closed(t)
	acts(t, r.Control(down(ctl.Welcome, 7), 100), answer(ctl.Alive, 7))
	is(t, r, 1, 7, true, ports, 0)
	return r
}

// down is a message to that switch, in its first life, of kinds that have an Epoch and a Seq; seq is that Seq.
func down(kind int, epoch uint32) ctl.Msg {
	return ctl.Msg{Kind: kind, Sw: 5, Life: 1, Epoch: epoch, Seq: seq}
}

const seq = 0xA1B2C3D4

func answer(kind int, epoch uint32) relay.Act {
	return up(ctl.Msg{Kind: kind, Sw: 5, Life: 1, Epoch: epoch, Seq: seq})
}

// adding is an Add of flow number n that goes in at port 1, out at 2.
func adding(n int, enter, last bool) ctl.Msg {
	m := down(ctl.Add, 7)
	m.Port, m.Out, m.Key, m.Enter, m.Last = 1, 2, keyOf(n), enter, last
	return m
}

func entryOf(m ctl.Msg, born, used int64) entry.Entry {
	return entry.Entry{Port: m.Port, Key: m.Key, Enter: m.Enter, Last: m.Last, Out: m.Out, Epoch: m.Epoch, Idle: m.Idle, Hard: m.Hard, Born: born, Used: used}
}

func freeing(buf int) ctl.Msg { return ctl.Msg{Kind: ctl.Free, Sw: 5, Life: 1, Buf: buf} }

func probing(port int) ctl.Msg { return ctl.Msg{Kind: ctl.Probe, Sw: 5, Life: 1, Port: port} }

func sending(port int, b []byte) ctl.Msg {
	return ctl.Msg{Kind: ctl.Send, Sw: 5, Life: 1, Epoch: 7, Port: port, Frame: b}
}

func missing(port, buf int, b []byte) relay.Act {
	return up(ctl.Msg{Kind: ctl.Miss, Sw: 5, Life: 1, Epoch: 7, Port: port, Buf: buf, Frame: b})
}

func joining(life uint32, ports int) relay.Act {
	return up(ctl.Msg{Kind: ctl.Join, Sw: 5, Life: life, Ports: ports})
}

// holds fails unless just the frames of these numbers are held; then none is any more.
func holds(t *testing.T, r *relay.Relay, now int64, numbers ...int) {
	t.Helper()
	if r.Held() != len(numbers) {
		t.Errorf("%d are held, not %v", r.Held(), numbers)
	}
	for n := range 256 {
		m := freeing(n)
		m.Life = r.Life()
		if slices.Contains(numbers, n) {
			acts(t, r.Control(m, now), drop(api.ErrDenied))
		}
		acts(t, r.Control(m, now))
	}
}

func TestExample(t *testing.T) {
	r := made(t, 5, 4, 3, 9)
	r.Plug(1, true, 0)
	acts(t, r.Tick(4), joining(1, 1))
	acts(t, r.Control(down(ctl.Welcome, 3), 5), answer(ctl.Alive, 3))
	is(t, r, 1, 3, true, 1, 0)
	b := tcp(80, "")
	acts(t, r.Frame(1, relay.Untagged, b, 6), up(ctl.Msg{Kind: ctl.Miss, Sw: 5, Life: 1, Epoch: 3, Port: 1, Frame: b}))
}

func TestConstants(t *testing.T) {
	if relay.Untagged != -1 || relay.Probing != -2 || relay.Forward != 1 || relay.Up != 2 || relay.Drop != 3 {
		t.Error(relay.Untagged, relay.Probing, relay.Forward, relay.Up, relay.Drop)
	}
	if k, ok := flow.Of(frame.Frame{Type: api.TypeIp}); !ok || k != (api.Key{}) {
		t.Error("the zero key is none", k, ok)
	}
}

// Of a nil switch.
func TestNilSwitch(t *testing.T) {
	var r *relay.Relay
	is(t, r, 0, 0, false, 0, 0)
	for _, now := range []int64{math.MinInt64, -4, 0, 1, 4, api.MaxTime, math.MaxInt64} {
		for _, n := range []int{math.MinInt, -1, 0, 1, 8, 9, math.MaxInt} {
			acts(t, r.Plug(n, true, now))
			acts(t, r.Plug(n, false, now))
			acts(t, r.Frame(n, relay.Untagged, tcp(1, ""), now))
			acts(t, r.Frame(n, relay.Probing, []byte{1, 1}, now))
			acts(t, r.Frame(n, now, nil, now))
		}
		acts(t, r.Control(down(ctl.Welcome, 1), now))
		acts(t, r.Control(ctl.Msg{}, now))
		acts(t, r.Tick(now))
	}
	is(t, r, 0, 0, false, 0, 0)
}

// P18.1.

func TestNew(t *testing.T) {
	for _, sw := range []int{1, 2, 7, 8} {
		is(t, made(t, sw, 1, 1, 1), 1, 0, false, 0, 0)
		is(t, made(t, sw, 1024, 64, 65535), 1, 0, false, 0, 0)
	}
	is(t, made(t, 1, 1, 64, 65535), 1, 0, false, 0, 0)
	is(t, made(t, 1, 1024, 1, 1), 1, 0, false, 0, 0)
}

func TestNewErrArg(t *testing.T) {
	for _, n := range []int{math.MinInt, -1 << 32, -1, 0, 9, 65, 1025, 65536, 1<<32 + 1, math.MaxInt} {
		for _, l := range [][4]int{{n, 1, 1, 1}, {1, n, 1, 1}, {1, 1, n, 1}, {1, 1, 1, n}, {n, n, n, n}} {
			most := [4]int{8, 1024, 64, 65535}
			good := true
			for i := range l {
				good = good && l[i] >= 1 && l[i] <= most[i]
			}
			r, e := relay.New(l[0], l[1], l[2], l[3])
			if good && (r == nil || e != api.OK) || !good && (r != nil || e != api.ErrArg) {
				t.Errorf("New(%v): %v, %d", l, r, e)
			}
		}
	}
}

// Acts name the switch that they are of.
func TestEachSwitchHasItsNumber(t *testing.T) {
	for sw := 1; sw <= 8; sw++ {
		r := made(t, sw, 4, 3, 9)
		r.Plug(8, true, 0)
		acts(t, r.Tick(0), up(ctl.Msg{Kind: ctl.Join, Sw: sw, Life: 1, Ports: 128}))
		for to := 1; to <= 8; to++ {
			if to != sw {
				acts(t, r.Control(ctl.Msg{Kind: ctl.Welcome, Sw: to, Life: 1, Epoch: 1}, 0))
			}
		}
		acts(t, r.Control(ctl.Msg{Kind: ctl.Welcome, Sw: sw, Life: 1, Epoch: 1}, 0), up(ctl.Msg{Kind: ctl.Alive, Sw: sw, Life: 1, Epoch: 1}))
		acts(t, r.Control(ctl.Msg{Kind: ctl.Probe, Sw: sw, Life: 1, Port: 8}, 0), forward(8, relay.Probing, []byte{byte(sw), 8}))
	}
}

// So many entries, and so many frames, as was said.
func TestMostEntries(t *testing.T) {
	for _, most := range []int{1, 2, 5, 1023, 1024} {
		r := made(t, 5, most, 1, 9)
		r.Control(down(ctl.Welcome, 7), 0)
		for n := range most {
			acts(t, r.Control(adding(n, false, false), 0), answer(ctl.Done, 7))
		}
		acts(t, r.Control(adding(most, false, false), 0))
		if n := len(r.Entries()); n != most {
			t.Errorf("%d, not %d", n, most)
		}
	}
}

func TestMostHeld(t *testing.T) {
	for _, most := range []int{1, 2, 5, 63, 64} {
		r := made(t, 5, 1, most, 9)
		r.Plug(2, true, 0)
		r.Control(down(ctl.Welcome, 7), 0)
		for n := range most {
			acts(t, r.Frame(2, relay.Untagged, tcp(n, ""), 0), missing(2, n, tcp(n, "")))
			if r.Held() != n+1 {
				t.Errorf("%d, not %d", r.Held(), n+1)
			}
		}
		acts(t, r.Frame(2, relay.Untagged, other, 0), drop(api.ErrFull), missing(2, most, other))
		if r.Held() != most {
			t.Errorf("%d, not %d", r.Held(), most)
		}
	}
}

// P18.2.

func TestPorts(t *testing.T) {
	r := made(t, 5, 4, 3, 9)
	for all := range 256 {
		for port := 1; port <= 8; port++ {
			acts(t, r.Plug(port, all>>(port-1)%2 == 1, 0))
		}
		is(t, r, 1, 0, false, all, 0)
	}
}

func TestPlugOfAClosedSwitch(t *testing.T) {
	r := made(t, 5, 4, 3, 9)
	for port := 1; port <= 8; port++ {
		acts(t, r.Plug(port, false, 1)) // it is so already
		is(t, r, 1, 0, false, 0, 0)
		acts(t, r.Plug(port, true, 2))
		is(t, r, 1, 0, false, 1<<(port-1), 0)
		acts(t, r.Plug(port, true, 2))
		is(t, r, 1, 0, false, 1<<(port-1), 0)
		acts(t, r.Plug(port, false, 3)) // it is closed already: its life is the same
		is(t, r, 1, 0, false, 0, 0)
	}
}

func TestPlugOfNoPort(t *testing.T) {
	r := opened(t)
	acts(t, r.Control(adding(1, true, true), 100), answer(ctl.Done, 7))
	for _, n := range []int{math.MinInt, -63, -1, 0, 9, 10, 33, 64, 65, 1<<32 + 1, math.MaxInt} {
		acts(t, r.Plug(n, true, 101))
		acts(t, r.Plug(n, false, 101))
		is(t, r, 1, 7, true, ports, 0, entryOf(adding(1, true, true), 100, 100))
	}
}

func TestPlugOfAnOpenSwitch(t *testing.T) {
	for port := 5; port <= 8; port++ {
		r := opened(t)
		acts(t, r.Control(adding(1, true, true), 100), answer(ctl.Done, 7))
		acts(t, r.Frame(1, relay.Untagged, arp, 101), missing(1, 0, arp))
		all := ports | 1<<(port-1)
		acts(t, r.Plug(port, true, 102), up(ctl.Msg{Kind: ctl.Changed, Sw: 5, Life: 1, Ports: all}))
		is(t, r, 1, 7, true, all, 1, entryOf(adding(1, true, true), 100, 100))
		acts(t, r.Plug(port, true, 102))
		is(t, r, 1, 7, true, all, 1, entryOf(adding(1, true, true), 100, 100))
		acts(t, r.Plug(port, false, 103)) // it closes
		is(t, r, 2, 7, false, ports, 0)
	}
}

// It closes by whatever port, also one that no entry speaks of.
func TestAPortThatGoesDown(t *testing.T) {
	for port := 1; port <= 4; port++ {
		r := opened(t)
		acts(t, r.Control(adding(1, true, true), 100), answer(ctl.Done, 7))
		acts(t, r.Frame(1, relay.Untagged, arp, 101), missing(1, 0, arp))
		acts(t, r.Plug(port, false, 101))
		is(t, r, 2, 7, false, ports&^(1<<(port-1)), 0)
		acts(t, r.Plug(port, false, 101))
		is(t, r, 2, 7, false, ports&^(1<<(port-1)), 0)
		acts(t, r.Plug(port, true, 101)) // it stays closed, and its life is one more only once
		is(t, r, 2, 7, false, ports, 0)
		acts(t, r.Tick(104), joining(2, ports))
		acts(t, r.Control(down(ctl.Welcome, 7), 104)) // to another life
		m := down(ctl.Welcome, 7)
		m.Life = 2
		acts(t, r.Control(m, 104), up(ctl.Msg{Kind: ctl.Alive, Sw: 5, Life: 2, Epoch: 7, Seq: seq}))
		is(t, r, 2, 7, true, ports, 0)
	}
}

// P18.4.

func TestJoin(t *testing.T) {
	r := closed(t)
	for now := range int64(40) {
		if now%4 == 0 {
			acts(t, r.Tick(now), joining(1, ports))
			acts(t, r.Tick(now), joining(1, ports))
		} else {
			acts(t, r.Tick(now))
		}
		is(t, r, 1, 0, false, ports, 0)
	}
	acts(t, r.Tick(api.MaxTime), joining(1, ports))
	acts(t, made(t, 5, 1, 1, 1).Tick(8), joining(1, 0))
}

func TestAnOpenSwitchDoesNotJoin(t *testing.T) {
	r := opened(t)
	for now := int64(100); now <= 109; now++ {
		acts(t, r.Tick(now))
		is(t, r, 1, 7, true, ports, 0)
	}
}

func TestQuiet(t *testing.T) {
	for _, quiet := range []int{1, 2, 3, 4, 255, 256, 65534, 65535} {
		for heard := range int64(5) {
			r := made(t, 5, 4, 3, quiet)
			r.Plug(1, true, 0)
			r.Control(down(ctl.Welcome, 7), heard)
			acts(t, r.Control(adding(1, true, true), heard), answer(ctl.Done, 7))
			r.Frame(1, relay.Untagged, arp, heard)
			last := heard + int64(quiet)
			acts(t, r.Tick(heard))
			acts(t, r.Tick(last))
			is(t, r, 1, 7, true, 1, 1, entryOf(adding(1, true, true), heard, heard))
			if (last+1)%4 == 0 { // then it closes first
				acts(t, r.Tick(last+1), joining(2, 1))
			} else {
				acts(t, r.Tick(last+1))
			}
			is(t, r, 2, 7, false, 1, 0)
			acts(t, r.Tick(last+1000-(last+1000)%4), joining(2, 1))
			is(t, r, 2, 7, false, 1, 0) // what is closed closes no more
		}
	}
}

// It was heard of at 0, if it never was; so a switch that never opened isn't closed by silence.
func TestQuietOfAClosedSwitch(t *testing.T) {
	r := closed(t)
	acts(t, r.Tick(400), joining(1, ports))
	is(t, r, 1, 0, false, ports, 0)
}

func TestTickTakesWhatIsOver(t *testing.T) {
	r := opened(t)
	idle, hard, stays := adding(1, true, false), adding(2, false, true), adding(3, true, true)
	idle.Idle, hard.Hard = 3, 5
	for _, m := range []ctl.Msg{idle, hard, stays} {
		acts(t, r.Control(m, 101), answer(ctl.Done, 7))
	}
	acts(t, r.Frame(1, relay.Untagged, tcp(1, ""), 102), forward(2, 7, tcp(1, "")))
	acts(t, r.Tick(104))
	is(t, r, 1, 7, true, ports, 0, entryOf(idle, 101, 102), entryOf(hard, 101, 101), entryOf(stays, 101, 101))
	acts(t, r.Tick(105))
	is(t, r, 1, 7, true, ports, 0, entryOf(hard, 101, 101), entryOf(stays, 101, 101))
	acts(t, r.Tick(106))
	is(t, r, 1, 7, true, ports, 0, entryOf(stays, 101, 101))
}

// Lives: each close is one more.
func TestLives(t *testing.T) {
	r := closed(t)
	for life := uint32(1); life < 40; life++ {
		now := int64(life) * 100
		for _, other := range []uint32{0, life - 1, life + 1, life + 256, life + 1<<16, math.MaxUint32} {
			acts(t, r.Control(ctl.Msg{Kind: ctl.Welcome, Sw: 5, Life: other, Epoch: 3}, now))
		}
		acts(t, r.Control(ctl.Msg{Kind: ctl.Welcome, Sw: 5, Life: life, Epoch: 3}, now), up(ctl.Msg{Kind: ctl.Alive, Sw: 5, Life: life, Epoch: 3}))
		is(t, r, life, 3, true, ports, 0)
		if life%2 == 0 {
			acts(t, r.Tick(now+10))
		} else {
			acts(t, r.Plug(2, false, now))
			acts(t, r.Plug(2, true, now))
		}
		is(t, r, life+1, 3, false, ports, 0)
	}
}

// P1: calls end at all arguments, also at times of which nothing is promised.
func TestAnyArguments(t *testing.T) {
	times := []int64{math.MinInt64, -api.MaxTime, -4, -1, 0, 1, 4, api.MaxTime, math.MaxInt64}
	numbers := []int{math.MinInt, -1, 0, 1, 2, 8, 9, 255, 256, math.MaxInt}
	for _, r := range []*relay.Relay{nil, {}, made(t, 5, 1, 1, 1), opened(t)} {
		for _, now := range times {
			for _, n := range numbers {
				r.Plug(n, n%2 == 0, now)
				r.Plug(1, true, now)
				for kind := -1; kind <= 14; kind++ {
					r.Control(ctl.Msg{Kind: kind, Sw: 5, Life: r.Life(), Epoch: uint32(n), Port: n, Out: n, Buf: n, Idle: n, Hard: n, Ports: n, Frame: arp}, now)
					r.Control(ctl.Msg{Kind: kind, Sw: n, Life: uint32(n), Key: api.Key{Proto: n}}, now)
					r.Control(ctl.Msg{Kind: kind, Sw: 5, Life: r.Life(), Epoch: r.Epoch(), Port: 1, Out: 1, Enter: true, Idle: 1, Hard: 1, Key: keyOf(1)}, now)
					r.Control(ctl.Msg{Kind: kind, Sw: 5, Life: r.Life(), Epoch: r.Epoch(), Port: 1, Frame: make([]byte, max(0, min(n, 600)))}, now)
				}
				for _, tag := range []int64{math.MinInt64, -3, relay.Probing, relay.Untagged, 0, 7, math.MaxUint32, math.MaxInt64} {
					for _, b := range [][]byte{nil, {}, {1}, {1, 1}, {0, 0}, {255, 255}, arp, nought, tcp(1, ""), make([]byte, 1<<12)} {
						r.Frame(n, tag, b, now)
						r.Frame(1, tag, b, now)
					}
				}
			}
			r.Tick(now)
			r.Entries()
			r.Held()
			r.Ports()
			r.Open()
		}
	}
}
