package relay_test

import (
	"math"
	"testing"

	"ostiary/api"
	"ostiary/ctl"
	"ostiary/relay"
)

// P18.3: messages that come.

// downs are messages that go down to that switch and may be, one of each kind.
func downs(epoch uint32) []ctl.Msg {
	add, send := adding(80, true, true), sending(3, arp)
	add.Epoch, send.Epoch = epoch, epoch
	return []ctl.Msg{down(ctl.Welcome, epoch), down(ctl.Ping, epoch), add, down(ctl.Flush, epoch), send, freeing(0), probing(3)}
}

// busy is an open switch that has an entry and holds a frame; both are told by still.
func busy(t *testing.T) *relay.Relay {
	t.Helper()
	r := opened(t)
	acts(t, r.Control(adding(9, true, true), 100), answer(ctl.Done, 7))
	acts(t, r.Frame(1, relay.Untagged, tcp(80, ""), 100), missing(1, 0, tcp(80, "")))
	still(t, r)
	return r
}

func still(t *testing.T, r *relay.Relay) {
	t.Helper()
	is(t, r, 1, 7, true, ports, 1, entryOf(adding(9, true, true), 100, 100))
}

// deaf fails if a message was heard, at 105, by a switch that heard last at 100.
func deaf(t *testing.T, r *relay.Relay, m ctl.Msg) {
	t.Helper()
	acts(t, r.Control(m, 105))
	still(t, r)
	acts(t, r.Tick(109))
	still(t, r)
	acts(t, r.Tick(110))
	is(t, r, 2, 7, false, ports, 0)
}

// Each of them counts as heard, and does something.
func TestEachMessageIsHeard(t *testing.T) {
	for i, m := range downs(7) {
		r := busy(t)
		if l := r.Control(m, 105); len(l) == 0 {
			t.Errorf("%+v: nothing", m)
		}
		acts(t, r.Tick(114))
		if !r.Open() {
			t.Error("message", i, "was not heard")
		}
		r.Tick(115)
		if r.Open() {
			t.Error("message", i, "is heard for too long")
		}
	}
}

func TestMessagesThatMayNotBe(t *testing.T) {
	for _, m := range downs(7) {
		for _, change := range []func(m *ctl.Msg){
			func(m *ctl.Msg) { m.Ports = 1 }, func(m *ctl.Msg) { m.Peer.Sw = 1 }, func(m *ctl.Msg) { m.Port += 8 }, func(m *ctl.Msg) { m.Port -= 256 },
			func(m *ctl.Msg) { m.Out -= 8 }, func(m *ctl.Msg) { m.Buf = 256 }, func(m *ctl.Msg) { m.Key.Proto = 256 }, func(m *ctl.Msg) { m.Idle = 65536 }, func(m *ctl.Msg) { m.Hard = -1 },
			func(m *ctl.Msg) { m.Frame = make([]byte, 513) }, func(m *ctl.Msg) { m.Kind = 0 }, func(m *ctl.Msg) { m.Kind = 14 }, func(m *ctl.Msg) { m.Kind += 256 },
		} {
			bad := m
			change(&bad)
			if ctl.May(bad) {
				t.Fatalf("%+v may be", bad)
			}
			deaf(t, busy(t), bad)
		}
	}
	for _, m := range []ctl.Msg{freeing(0), probing(3)} { // they have no Epoch
		m.Epoch = 7
		deaf(t, busy(t), m)
	}
	m := sending(3, nil)
	deaf(t, busy(t), m)
	deaf(t, busy(t), ctl.Msg{})
}

func TestMessagesThatGoUp(t *testing.T) {
	for _, m := range []ctl.Msg{
		{Kind: ctl.Join, Ports: 3}, {Kind: ctl.Alive, Epoch: 7, Seq: 1}, {Kind: ctl.Miss, Epoch: 7, Port: 1, Frame: arp}, {Kind: ctl.Done, Epoch: 9}, {Kind: ctl.Changed}, {Kind: ctl.Seen, Port: 1, Peer: api.Place{Sw: 1, Port: 1}},
	} {
		m.Sw, m.Life = 5, 1
		if !ctl.May(m) {
			t.Fatalf("%+v may not be", m)
		}
		deaf(t, busy(t), m)
	}
}

func TestMessagesToOthers(t *testing.T) {
	for _, epoch := range []uint32{7, 8} {
		for _, m := range downs(epoch) {
			for sw := 1; sw <= 8; sw++ {
				if sw != 5 {
					other := m
					other.Sw = sw
					deaf(t, busy(t), other)
				}
			}
			for _, life := range []uint32{0, 2, 1 + 256, 1 + 1<<16, math.MaxUint32} {
				other := m
				other.Life = life
				deaf(t, busy(t), other)
			}
		}
	}
}

func TestMessagesToAClosedSwitch(t *testing.T) {
	for _, m := range downs(3) {
		if m.Kind == ctl.Welcome {
			continue
		}
		r := closed(t)
		acts(t, r.Control(m, 105))
		is(t, r, 1, 0, false, ports, 0)
		r.Control(down(ctl.Welcome, 2), 106) // what was not heard has no epoch either
		is(t, r, 1, 2, true, ports, 0)
	}
}

func TestMessagesOfAnElderEpoch(t *testing.T) {
	for _, epoch := range []uint32{0, 1, 6} {
		for _, m := range downs(epoch)[:5] {
			deaf(t, busy(t), m)
		}
	}
}

// Free and Probe are of no epoch, so of no elder one.
func TestMessagesWithoutAnEpoch(t *testing.T) {
	r := busy(t)
	acts(t, r.Control(probing(2), 101), forward(2, relay.Probing, []byte{5, 2}))
	still(t, r)
	acts(t, r.Control(freeing(0), 101), drop(api.ErrDenied))
	is(t, r, 1, 7, true, ports, 0, entryOf(adding(9, true, true), 100, 100))
}

// Epochs: a greater one empties the switch, whatever message has it.
func TestMessagesOfAGreaterEpoch(t *testing.T) {
	for _, epoch := range []uint32{8, 9, 7 + 256, 7 + 1<<16, math.MaxUint32} {
		l := downs(epoch)
		r := busy(t)
		acts(t, r.Control(l[0], 101), answer(ctl.Alive, epoch))
		is(t, r, 1, epoch, true, ports, 0)
		r = busy(t)
		acts(t, r.Control(l[1], 101), answer(ctl.Alive, epoch))
		is(t, r, 1, epoch, true, ports, 0)
		r = busy(t) // what was held is of the elder one: it comes no more
		acts(t, r.Control(l[2], 101), answer(ctl.Done, epoch))
		is(t, r, 1, epoch, true, ports, 0, entryOf(l[2], 101, 101))
		r = busy(t)
		acts(t, r.Control(l[3], 101), answer(ctl.Done, epoch))
		is(t, r, 1, epoch, true, ports, 0)
		r = busy(t)
		acts(t, r.Control(l[4], 101), forward(3, relay.Untagged, arp))
		is(t, r, 1, epoch, true, ports, 0)
		acts(t, r.Control(down(ctl.Ping, 7), 102)) // from now on 7 is an elder one
		acts(t, r.Frame(1, relay.Untagged, tcp(9, ""), 102), up(ctl.Msg{Kind: ctl.Miss, Sw: 5, Life: 1, Epoch: epoch, Port: 1, Buf: 1, Frame: tcp(9, "")}))
	}
}

// The same epoch empties nothing, not even by a Flush.
func TestMessagesOfTheSameEpoch(t *testing.T) {
	r := busy(t)
	acts(t, r.Control(down(ctl.Flush, 7), 101), answer(ctl.Done, 7))
	still(t, r)
	acts(t, r.Control(down(ctl.Ping, 7), 101), answer(ctl.Alive, 7))
	still(t, r)
	acts(t, r.Control(down(ctl.Welcome, 7), 101), answer(ctl.Alive, 7))
	still(t, r)
	acts(t, r.Control(sending(1, arp), 101), forward(1, relay.Untagged, arp))
	still(t, r)
}

func TestWelcome(t *testing.T) {
	for _, epoch := range []uint32{0, 1, 7, math.MaxUint32} {
		r := closed(t)
		acts(t, r.Control(down(ctl.Welcome, epoch), 100), answer(ctl.Alive, epoch))
		is(t, r, 1, epoch, true, ports, 0)
	}
	r := opened(t)
	acts(t, r.Plug(4, false, 101))
	m := down(ctl.Welcome, 6)
	m.Life = 2
	acts(t, r.Control(m, 102)) // of an elder epoch: it opens nothing
	is(t, r, 2, 7, false, 7, 0)
	m.Epoch, m.Seq = 7, 0
	acts(t, r.Control(m, 103), up(ctl.Msg{Kind: ctl.Alive, Sw: 5, Life: 2, Epoch: 7}))
	is(t, r, 2, 7, true, 7, 0)
	acts(t, r.Tick(112))
	is(t, r, 2, 7, true, 7, 0)
	acts(t, r.Tick(113))
	is(t, r, 3, 7, false, 7, 0)
}

func TestPingAndFlush(t *testing.T) {
	r := opened(t)
	for _, n := range []uint32{0, 1, 255, math.MaxUint32} {
		m := down(ctl.Ping, 7)
		m.Seq = n
		acts(t, r.Control(m, 100), up(ctl.Msg{Kind: ctl.Alive, Sw: 5, Life: 1, Epoch: 7, Seq: n}))
		m.Kind = ctl.Flush
		acts(t, r.Control(m, 100), up(ctl.Msg{Kind: ctl.Done, Sw: 5, Life: 1, Epoch: 7, Seq: n}))
	}
	is(t, r, 1, 7, true, ports, 0)
}

// Add.

func TestAdd(t *testing.T) {
	r := opened(t)
	m := ctl.Msg{Kind: ctl.Add, Sw: 5, Life: 1, Epoch: 7, Seq: 0, Port: 8, Out: 6, Enter: false, Last: true, Idle: 65535, Hard: 300, Key: keyOf(12)}
	n := ctl.Msg{Kind: ctl.Add, Sw: 5, Life: 1, Epoch: 7, Seq: 4, Port: 1, Out: 1, Enter: true, Last: false, Idle: 2, Hard: 0, Key: api.Key{}}
	acts(t, r.Control(m, 103), up(ctl.Msg{Kind: ctl.Done, Sw: 5, Life: 1, Epoch: 7}))
	acts(t, r.Control(n, 104), up(ctl.Msg{Kind: ctl.Done, Sw: 5, Life: 1, Epoch: 7, Seq: 4}))
	is(t, r, 1, 7, true, ports, 0, entryOf(n, 104, 104), entryOf(m, 103, 103))
	m.Enter, m.Last, m.Out, m.Idle, m.Hard = true, false, 3, 1, 0 // in place of what there was
	acts(t, r.Control(m, 105), up(ctl.Msg{Kind: ctl.Done, Sw: 5, Life: 1, Epoch: 7}))
	is(t, r, 1, 7, true, ports, 0, entryOf(n, 104, 104), entryOf(m, 105, 105))
}

func TestAddWithoutRoom(t *testing.T) {
	r := opened(t)
	for n := range 4 {
		acts(t, r.Control(adding(n, true, true), 101), answer(ctl.Done, 7))
	}
	acts(t, r.Frame(1, relay.Untagged, tcp(80, ""), 101), missing(1, 0, tcp(80, "")))
	acts(t, r.Control(adding(80, true, true), 108)) // nothing: no Done, and what is held stays held
	if len(r.Entries()) != 4 || r.Held() != 1 {
		t.Error(r.Entries(), r.Held())
	}
	acts(t, r.Tick(117)) // but it was heard
	if !r.Open() {
		t.Error("it was not heard")
	}
	acts(t, r.Control(adding(3, true, false), 117), answer(ctl.Done, 7)) // one that is there has its room
	m := adding(80, true, true)
	m.Epoch = 8
	acts(t, r.Control(m, 117), answer(ctl.Done, 8)) // a greater epoch makes room
	is(t, r, 1, 8, true, ports, 0, entryOf(m, 117, 117))
}

func TestAddLetsHeldFramesGo(t *testing.T) {
	r := made(t, 5, 4, 9, 9)
	for port := 1; port <= 4; port++ {
		r.Plug(port, true, 0)
	}
	acts(t, r.Control(down(ctl.Welcome, 7), 100), answer(ctl.Alive, 7))
	for n, x := range []struct {
		port int
		b    []byte
	}{{1, tcp(80, "a")}, {2, tcp(80, "b")}, {1, tcp(81, "c")}, {1, tcp(80, "d")}, {1, arp}, {1, tcp(80, "a")}, {3, tcp(80, "e")}, {1, nought}} {
		acts(t, r.Frame(x.port, relay.Untagged, x.b, 101), missing(x.port, n, x.b))
	}
	m := adding(80, true, false)
	acts(t, r.Control(m, 102), answer(ctl.Done, 7), forward(2, 7, tcp(80, "a")), forward(2, 7, tcp(80, "d")), forward(2, 7, tcp(80, "a")))
	is(t, r, 1, 7, true, ports, 5, entryOf(m, 102, 102))
	acts(t, r.Control(m, 103), answer(ctl.Done, 7)) // they are held no more
	m.Port, m.Last = 2, true
	acts(t, r.Control(m, 103), answer(ctl.Done, 7), forward(2, relay.Untagged, tcp(80, "b")))
	m.Port, m.Out = 3, 8
	acts(t, r.Control(m, 103), answer(ctl.Done, 7), drop(api.ErrDown)) // Out is down
	acts(t, r.Control(adding(81, true, true), 103), answer(ctl.Done, 7), forward(2, relay.Untagged, tcp(81, "c")))
	holds(t, r, 103, 4, 7)
}

// What is left stands as it stood: the eldest one goes first.
func TestAddLeavesOthersInOrder(t *testing.T) {
	for _, which := range []int{0, 1, 2} {
		r := opened(t)
		for n := range 3 {
			acts(t, r.Frame(1, relay.Untagged, tcp(n, ""), 101), missing(1, n, tcp(n, "")))
		}
		acts(t, r.Control(adding(which, true, true), 102), answer(ctl.Done, 7), forward(2, relay.Untagged, tcp(which, "")))
		acts(t, r.Frame(1, relay.Untagged, arp, 102), missing(1, 3, arp))
		acts(t, r.Frame(1, relay.Untagged, arp, 102), drop(api.ErrFull), missing(1, 4, arp))
		last := 2
		if which == 2 {
			last = 1
		}
		holds(t, r, 102, last, 3, 4)
	}
}

func TestAddWithoutEnter(t *testing.T) {
	r := opened(t)
	acts(t, r.Frame(1, relay.Untagged, tcp(80, ""), 101), missing(1, 0, tcp(80, "")))
	acts(t, r.Control(adding(80, false, true), 102), answer(ctl.Done, 7))
	is(t, r, 1, 7, true, ports, 1, entryOf(adding(80, false, true), 102, 102))
	holds(t, r, 102, 0)
}

// Frames without a key are of no entry's, not of the one with the zero key either.
func TestAddOfTheZeroKey(t *testing.T) {
	r := opened(t)
	for n, b := range [][]byte{arp, nought, other} {
		acts(t, r.Frame(1, relay.Untagged, b, 101), missing(1, n, b))
	}
	m := adding(0, true, true)
	m.Key = api.Key{}
	acts(t, r.Control(m, 102), answer(ctl.Done, 7), forward(2, relay.Untagged, nought))
	holds(t, r, 102, 0, 2)
}

// A held frame that comes in at last was matched then.
func TestAddUses(t *testing.T) {
	r := opened(t)
	acts(t, r.Frame(1, relay.Untagged, tcp(80, ""), 101), missing(1, 0, tcp(80, "")))
	m := adding(80, true, true)
	m.Idle, m.Hard = 1, 1
	acts(t, r.Control(m, 106), answer(ctl.Done, 7), forward(2, relay.Untagged, tcp(80, "")))
	is(t, r, 1, 7, true, ports, 0, entryOf(m, 106, 106))
}

// Send, Free, Probe.

func TestSend(t *testing.T) {
	r := opened(t)
	for _, b := range [][]byte{arp, tcp(80, "x"), {0}, {1, 1}, make([]byte, 512)} { // whatever bytes
		for port := 1; port <= 8; port++ {
			if port <= 4 {
				acts(t, r.Control(sending(port, b), 101), forward(port, relay.Untagged, b))
			} else {
				acts(t, r.Control(sending(port, b), 101), drop(api.ErrDown))
			}
		}
	}
	is(t, r, 1, 7, true, ports, 0)
}

func TestFree(t *testing.T) {
	r := opened(t)
	for n := range 3 {
		acts(t, r.Frame(1, relay.Untagged, tcp(n, ""), 101), missing(1, n, tcp(n, "")))
	}
	acts(t, r.Control(freeing(3), 101))
	acts(t, r.Control(freeing(255), 101))
	acts(t, r.Control(freeing(1), 101), drop(api.ErrDenied))
	is(t, r, 1, 7, true, ports, 2)
	acts(t, r.Control(freeing(1), 101)) // it is held no more
	is(t, r, 1, 7, true, ports, 2)
	acts(t, r.Control(adding(1, true, true), 101), answer(ctl.Done, 7))
	acts(t, r.Control(adding(2, true, true), 101), answer(ctl.Done, 7), forward(2, relay.Untagged, tcp(2, "")))
	acts(t, r.Control(freeing(0), 101), drop(api.ErrDenied))
	is(t, r, 1, 7, true, ports, 0, entryOf(adding(1, true, true), 101, 101), entryOf(adding(2, true, true), 101, 101))
}

func TestProbe(t *testing.T) {
	r := opened(t)
	for port := 1; port <= 8; port++ {
		if port <= 4 {
			acts(t, r.Control(probing(port), 101), forward(port, relay.Probing, []byte{5, byte(port)}))
		} else {
			acts(t, r.Control(probing(port), 101))
		}
	}
	is(t, r, 1, 7, true, ports, 0)
}

// P18.6.

// Behind a message of a greater epoch, a silence, and a port that went down nothing of what was stands, and nothing that is late puts anything in.
func TestFenced(t *testing.T) {
	for name, fence := range map[string]func(r *relay.Relay){
		"epoch":   func(r *relay.Relay) { r.Control(down(ctl.Flush, 8), 101) },
		"silence": func(r *relay.Relay) { r.Tick(110) },
		"port":    func(r *relay.Relay) { r.Plug(4, false, 101); r.Plug(4, true, 101) },
	} {
		r := busy(t)
		fence(r)
		if r.Held() != 0 || len(r.Entries()) != 0 {
			t.Error(name, r.Held(), r.Entries())
		}
		for _, m := range downs(7)[:5] {
			acts(t, r.Control(m, 111))
		}
		if len(r.Entries()) != 0 {
			t.Error(name, r.Entries())
		}
		w := down(ctl.Welcome, 8)
		w.Life = r.Life()
		r.Control(w, 111)
		for _, late := range []ctl.Msg{adding(9, true, true), adding(9, false, true)} {
			acts(t, r.Control(late, 111))
			if name != "epoch" { // of this epoch, but of another life
				late.Epoch = 8
				acts(t, r.Control(late, 111))
			}
		}
		if len(r.Entries()) != 0 || !r.Open() {
			t.Error(name, r.Entries(), r.Open())
		}
		l := r.Frame(1, relay.Untagged, tcp(9, ""), 111)
		if len(l) != 1 || l[0].Kind != relay.Up {
			t.Errorf("%s: %+v", name, l)
		}
		acts(t, r.Frame(1, 7, tcp(9, ""), 111), drop(api.ErrStale))
	}
}
