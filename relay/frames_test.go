package relay_test

import (
	"bytes"
	"math"
	"slices"
	"testing"

	"ostiary/api"
	"ostiary/ctl"
	"ostiary/frame"
	"ostiary/relay"
)

// P18.3: frames that come in.

// noFrames are bytes that are none, by the errors that layer 5 has for them.
func noFrames() map[api.Errno][][]byte {
	sum := tcp(1, "abc")
	sum[len(sum)-1] ^= 1
	return map[api.Errno][][]byte{
		api.ErrForm: {nil, {}, {1}, {1, 1}, {1, 2, 3}, arp[:len(arp)-1], tcp(1, "abc")[:40], make([]byte, 512)},
		api.ErrLong: {make([]byte, 513), slices.Concat(tcp(1, ""), make([]byte, 513)), make([]byte, 1<<16)},
		api.ErrSum:  {sum},
	}
}

var anyTags = []int64{math.MinInt64, -1 << 32, -3, relay.Probing, relay.Untagged, 0, 1, 6, 7, 8, math.MaxUint32, 1 << 32, 1<<32 + 7, math.MaxInt64}

func TestNoPort(t *testing.T) {
	for _, r := range []*relay.Relay{closed(t), opened(t)} {
		before := r.Held()
		for _, port := range []int{math.MinInt, -63, -1, 0, 5, 6, 7, 8, 9, 33, 64, 65, 256 + 1, 1<<32 + 1, math.MaxInt} {
			for _, tag := range anyTags {
				for _, b := range [][]byte{nil, {1, 1}, arp, tcp(1, ""), make([]byte, 600)} {
					acts(t, r.Frame(port, tag, b, 101), drop(api.ErrRange))
				}
			}
		}
		if r.Held() != before {
			t.Error(r.Held())
		}
	}
}

func TestProbeComesIn(t *testing.T) {
	r := opened(t)
	for port := 1; port <= 4; port++ {
		for b := range 1 << 16 {
			sw, from := b>>8, b&255
			want := drop(api.ErrForm)
			if sw >= 1 && sw <= 8 && from >= 1 && from <= 8 {
				want = up(ctl.Msg{Kind: ctl.Seen, Sw: 5, Life: 1, Port: port, Peer: api.Place{Sw: sw, Port: from}})
			}
			acts(t, r.Frame(port, relay.Probing, []byte{byte(sw), byte(from)}, 101), want)
			if b == 600 && port > 1 {
				break
			}
		}
	}
	for _, b := range [][]byte{nil, {}, {1}, {8}, {1, 1, 1}, {1, 1, 0}, {0, 1, 1}, arp, tcp(1, ""), nought, make([]byte, 513)} {
		acts(t, r.Frame(1, relay.Probing, b, 101), drop(api.ErrForm))
	}
	is(t, r, 1, 7, true, ports, 0)
}

func TestProbeComesToAClosedSwitch(t *testing.T) {
	r := closed(t)
	for _, b := range [][]byte{{1, 1}, {8, 8}, {0, 1}, nil, arp, make([]byte, 513)} {
		acts(t, r.Frame(1, relay.Probing, b, 101), drop(api.ErrForm))
	}
	is(t, r, 1, 0, false, ports, 0)
}

// What is no frame is dropped with its error, whatever its tag, and whether the switch is open or not.
func TestNoFrame(t *testing.T) {
	for _, r := range []*relay.Relay{closed(t), opened(t)} {
		for e, l := range noFrames() {
			for _, b := range l {
				for _, tag := range anyTags {
					if tag != relay.Probing {
						acts(t, r.Frame(2, tag, b, 101), drop(e))
					}
				}
			}
		}
		if r.Held() != 0 {
			t.Error(r.Held())
		}
	}
}

func TestForward(t *testing.T) {
	for _, enter := range []bool{false, true} {
		for _, last := range []bool{false, true} {
			r := opened(t)
			m := adding(80, enter, last)
			acts(t, r.Control(m, 101), answer(ctl.Done, 7))
			in, out := int64(7), int64(7)
			if enter {
				in = -1
			}
			if last {
				out = -1
			}
			for _, body := range []string{"", "a", "what else?"} {
				b := tcp(80, body)
				acts(t, r.Frame(1, in, b, 103), forward(2, out, b))
				is(t, r, 1, 7, true, ports, 0, entryOf(m, 101, 103))
			}
			for _, tag := range anyTags { // of all others there is no entry
				if tag != in && tag != relay.Untagged && tag != relay.Probing {
					acts(t, r.Frame(1, tag, tcp(80, ""), 104), drop(api.ErrStale))
				}
			}
			is(t, r, 1, 7, true, ports, 0, entryOf(m, 101, 103))
			if !enter {
				acts(t, r.Frame(1, relay.Untagged, tcp(80, ""), 104), missing(1, 0, tcp(80, "")))
			}
		}
	}
}

// It goes out at Out, also if that is where it came in; with the epoch of the entry.
func TestForwardAtEachPort(t *testing.T) {
	for in := 1; in <= 4; in++ {
		for out := 1; out <= 8; out++ {
			r := opened(t)
			m := adding(80, true, false)
			m.Port, m.Out, m.Epoch = in, out, math.MaxUint32
			acts(t, r.Control(m, 101), answer(ctl.Done, math.MaxUint32))
			b := tcp(80, "x")
			if out <= 4 {
				acts(t, r.Frame(in, relay.Untagged, b, 101), forward(out, math.MaxUint32, b))
			} else {
				acts(t, r.Frame(in, relay.Untagged, b, 101), drop(api.ErrDown))
			}
			for other := 1; other <= 4; other++ {
				if other != in {
					acts(t, r.Frame(other, math.MaxUint32, b, 101), drop(api.ErrStale))
				}
			}
		}
	}
}

// A frame that goes out at a port that is down was matched, too; and it goes out as soon as the port is up.
func TestOutIsDown(t *testing.T) {
	r := opened(t)
	m := adding(80, true, true)
	m.Out, m.Idle = 6, 4
	acts(t, r.Control(m, 101), answer(ctl.Done, 7))
	acts(t, r.Frame(1, relay.Untagged, tcp(80, ""), 104), drop(api.ErrDown))
	is(t, r, 1, 7, true, ports, 0, entryOf(m, 101, 104))
	acts(t, r.Plug(6, true, 105), up(ctl.Msg{Kind: ctl.Changed, Sw: 5, Life: 1, Ports: ports | 32}))
	acts(t, r.Frame(1, relay.Untagged, tcp(80, ""), 107), forward(6, -1, tcp(80, "")))
}

// An entry whose time is over counts no more, whether Tick came or not.
func TestAnEntryThatIsOver(t *testing.T) {
	r := opened(t)
	m := adding(80, false, true)
	m.Idle = 3
	acts(t, r.Control(m, 101), answer(ctl.Done, 7))
	acts(t, r.Frame(1, 7, tcp(80, ""), 103), forward(2, -1, tcp(80, "")))
	acts(t, r.Frame(1, 7, tcp(80, ""), 105), forward(2, -1, tcp(80, "")))
	acts(t, r.Frame(1, 7, tcp(80, ""), 108), drop(api.ErrStale))
	m = adding(80, true, true)
	m.Hard = 2
	acts(t, r.Control(m, 108), answer(ctl.Done, 7))
	acts(t, r.Frame(1, relay.Untagged, tcp(80, ""), 109), forward(2, -1, tcp(80, "")))
	acts(t, r.Frame(1, relay.Untagged, tcp(80, ""), 110), missing(1, 0, tcp(80, "")))
	is(t, r, 1, 7, true, ports, 1, entryOf(m, 108, 109))
}

// A frame without a key is not taken for one of the zero key.
func TestAFrameWithoutAKey(t *testing.T) {
	r := opened(t)
	m := adding(0, true, true)
	m.Key = api.Key{}
	acts(t, r.Control(m, 101), answer(ctl.Done, 7))
	acts(t, r.Frame(1, relay.Untagged, arp, 101), missing(1, 0, arp))
	acts(t, r.Frame(1, relay.Untagged, other, 101), missing(1, 1, other))
	acts(t, r.Frame(1, relay.Untagged, nought, 102), forward(2, -1, nought))
	m.Enter = false
	acts(t, r.Control(m, 103), answer(ctl.Done, 7))
	acts(t, r.Frame(1, 7, arp, 104), drop(api.ErrStale))
	acts(t, r.Frame(1, 7, nought, 104), forward(2, -1, nought))
}

// A frame with a tag that no entry is for is never asked about: ErrStale is ahead of ErrState.
func TestStale(t *testing.T) {
	for _, r := range []*relay.Relay{closed(t), opened(t)} {
		for _, tag := range anyTags {
			for _, b := range [][]byte{arp, other, nought, tcp(80, "")} {
				if tag != relay.Probing && tag != relay.Untagged {
					acts(t, r.Frame(1, tag, b, 101), drop(api.ErrStale))
				}
			}
		}
		if r.Held() != 0 {
			t.Error(r.Held())
		}
	}
}

func TestAClosedSwitchSendsNothing(t *testing.T) {
	r := closed(t)
	for _, b := range [][]byte{arp, other, nought, tcp(80, "")} {
		acts(t, r.Frame(1, relay.Untagged, b, 101), drop(api.ErrState))
	}
	is(t, r, 1, 0, false, ports, 0)
}

func TestMiss(t *testing.T) {
	r := made(t, 5, 4, 64, 9)
	for port := 1; port <= 8; port++ {
		r.Plug(port, true, 0)
	}
	acts(t, r.Control(down(ctl.Welcome, 7), 100), answer(ctl.Alive, 7))
	long := bytesOf(frame.Frame{Type: 0xFFFF, Body: bytes.Repeat([]byte{7}, 498)})
	n := 0
	for port := 1; port <= 8; port++ {
		for _, b := range [][]byte{arp, other, nought, tcp(80, ""), tcp(80, ""), long} { // each for itself, also if it is the same
			acts(t, r.Frame(port, relay.Untagged, b, 100), missing(port, n, b))
			n++
			is(t, r, 1, 7, true, 255, n)
		}
	}
	holds(t, r, 100, slicesOf(0, n)...)
}

func slicesOf(from, to int) []int {
	var l []int
	for n := from; n < to; n++ {
		l = append(l, n%256)
	}
	return l
}

// Without room the eldest one goes, ahead of the question.
func TestErrFull(t *testing.T) {
	r := opened(t)
	for n := range 3 {
		acts(t, r.Frame(1, relay.Untagged, tcp(n, ""), 101), missing(1, n, tcp(n, "")))
	}
	acts(t, r.Frame(2, relay.Untagged, tcp(3, ""), 101), drop(api.ErrFull), missing(2, 3, tcp(3, "")))
	acts(t, r.Control(freeing(0), 101))
	acts(t, r.Control(freeing(2), 101), drop(api.ErrDenied))
	acts(t, r.Frame(2, relay.Untagged, tcp(4, ""), 101), missing(2, 4, tcp(4, "")))
	acts(t, r.Frame(2, relay.Untagged, arp, 101), drop(api.ErrFull), missing(2, 5, arp)) // number 1
	acts(t, r.Frame(2, relay.Untagged, arp, 101), drop(api.ErrFull), missing(2, 6, arp)) // number 3
	holds(t, r, 101, 4, 5, 6)
}

func TestNumbersGoRound(t *testing.T) {
	r := opened(t)
	for n := range 700 {
		want := []relay.Act{missing(1, n%256, arp)}
		if n >= 3 {
			want = []relay.Act{drop(api.ErrFull), missing(1, n%256, arp)}
		}
		acts(t, r.Frame(1, relay.Untagged, arp, 101), want...)
	}
	holds(t, r, 101, slicesOf(697, 700)...)
	acts(t, r.Frame(1, relay.Untagged, arp, 101), missing(1, 700%256, arp)) // also if none is held
}

// What is not held has no number; numbers go on over closings and epochs.
func TestNumbersGoOn(t *testing.T) {
	r := opened(t)
	acts(t, r.Frame(1, relay.Untagged, arp, 101), missing(1, 0, arp))
	acts(t, r.Frame(1, 6, arp, 101), drop(api.ErrStale))
	acts(t, r.Frame(1, relay.Untagged, nil, 101), drop(api.ErrForm))
	acts(t, r.Frame(1, relay.Untagged, arp, 101), missing(1, 1, arp))
	acts(t, r.Control(down(ctl.Flush, 8), 101), answer(ctl.Done, 8))
	is(t, r, 1, 8, true, ports, 0)
	m := missing(1, 2, arp)
	m.Msg.Epoch = 8
	acts(t, r.Frame(1, relay.Untagged, arp, 101), m)
	acts(t, r.Plug(4, false, 102))
	acts(t, r.Frame(1, relay.Untagged, arp, 102), drop(api.ErrState))
	w := down(ctl.Welcome, 8)
	w.Life = 2
	r.Control(w, 103)
	m.Msg.Buf, m.Msg.Life = 3, 2
	acts(t, r.Frame(1, relay.Untagged, arp, 103), m)
}

// Nothing that is handed in is kept, or handed out.
func TestFramesAreCopied(t *testing.T) {
	r := opened(t)
	want := tcp(80, "abc")
	b := slices.Clone(want)
	l := r.Frame(1, relay.Untagged, b, 101)
	wipe(b)
	acts(t, l, missing(1, 0, want))
	wipe(l[0].Msg.Frame)
	l = r.Control(adding(80, true, true), 101)
	acts(t, l, answer(ctl.Done, 7), forward(2, -1, want))
	wipe(l[1].Frame)
	copy(b, want)
	l = r.Frame(1, relay.Untagged, b, 102)
	wipe(b)
	acts(t, l, forward(2, -1, want))
	copy(b, want)
	l = r.Control(sending(3, b), 102)
	wipe(b)
	acts(t, l, forward(3, -1, want))
	l = r.Control(probing(3), 102)
	wipe(l[0].Frame)
	acts(t, r.Control(probing(3), 102), forward(3, -2, []byte{5, 3}))
}

// wipe writes into all bytes, and behind their end.
func wipe(b []byte) {
	b = b[:cap(b)]
	for i := range b {
		b[i] = 0xEE
	}
}

func TestFramesAreNotChanged(t *testing.T) {
	r := opened(t)
	b := tcp(80, "abc")
	r.Frame(1, relay.Untagged, b, 101)
	r.Control(adding(80, true, false), 101)
	r.Frame(1, relay.Untagged, b, 101)
	r.Control(sending(1, b), 101)
	r.Frame(2, relay.Untagged, arp, 101)
	if !bytes.Equal(b, tcp(80, "abc")) {
		t.Error(b)
	}
}

// Entries that are told are the teller's no more.
func TestEntriesAreCopied(t *testing.T) {
	r := opened(t)
	acts(t, r.Control(adding(80, true, true), 101), answer(ctl.Done, 7))
	l := r.Entries()
	l[0].Out = 4
	acts(t, r.Frame(1, relay.Untagged, tcp(80, ""), 101), forward(2, -1, tcp(80, "")))
	is(t, r, 1, 7, true, ports, 0, entryOf(adding(80, true, true), 101, 101))
}
