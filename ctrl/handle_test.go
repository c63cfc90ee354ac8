package ctrl_test

import (
	"math"
	"testing"

	"ostiary/api"
	"ostiary/ctl"
)

// P29.4.

// ignores fails if something is said, or written down.
func (r *rig) ignores(l ...ctl.Msg) {
	r.Helper()
	r.passes()
	was := r.standing()
	for _, m := range l {
		r.says(r.Handle(m, r.now))
	}
	r.wrote()
	if is := r.standing(); is != was {
		r.Errorf("changed: %s\n%s", was, is)
	}
}

// standing is all that a controller tells of itself.
func (r *rig) standing() string {
	return show([]any{r.Epoch(), r.Flows(), r.Bindings(), r.Links(), r.Waiting(), r.Room(), r.State().Recs(0)})
}

func TestHandleOfWhatMayNotBe(t *testing.T) {
	r := home(t, "allow: any -> any;")
	join := ctl.Msg{Kind: ctl.Join, Sw: 4, Life: 1, Ports: 255}
	for i := range 12 {
		m := join
		switch i {
		case 0:
			m.Sw = 0
		case 1:
			m.Sw = 9
		case 2:
			m.Sw = -1
		case 3:
			m.Ports = -1
		case 4:
			m.Ports = 256
		case 5:
			m.Kind = 0
		case 6:
			m.Kind = 14
		case 7:
			m.Seq = 1
		case 8:
			m.Port = 1
		case 9:
			m.Frame = []byte{1}
		case 10:
			m.Sw = math.MinInt
		case 11:
			m.Epoch = 1
		}
		r.ignores(m)
	}
	r.ignores(ctl.Msg{})
	miss := r.up(ctl.Miss, 1)
	miss.Port, miss.Frame = 1, make([]byte, 513)
	r.ignores(miss)
	miss.Frame = nil
	r.ignores(miss)
	seen := r.up(ctl.Seen, 1)
	seen.Port = 2
	r.ignores(seen)
}

// What goes down is none of its messages.
func TestHandleOfWhatGoesDown(t *testing.T) {
	r := home(t, "allow: any -> any;")
	for kind := ctl.Welcome; kind <= ctl.Probe; kind++ {
		m := r.up(kind, 1)
		switch kind {
		case ctl.Add:
			m.Port, m.Out = 1, 2
		case ctl.Send:
			m.Port, m.Frame = 1, tcp(t, ha, hb, 1, 2)
		case ctl.Probe:
			m.Port = 1
		}
		if !ctl.May(m) {
			t.Error(m)
		}
		r.ignores(m)
	}
}

func TestJoin(t *testing.T) {
	r := made(t, 200, config)
	r.passes()
	r.joins(5, 7, 0b101)
	r.joins(5, 7, 0b101) // once more: it did not hear
	r.wrote()
	r.ticks(105, r.pings([9]int{5: 0b101})...)
	r.joins(1, 0xFFFFFFFF, 255)
	r.joins(8, 1, 0)
	r.wrote()
	if r.Epoch() != 1 {
		t.Error(r.Epoch())
	}
	r.says(r.Handle(ctl.Msg{Kind: ctl.Join, Sw: 3, Ports: 1}, r.now), ctl.Msg{Kind: ctl.Welcome, Sw: 3, Epoch: 1, Seq: r.seq + 1}) // a life of 0
	r.seq++
	r.wrote()
}

func TestJoinOfAnElderLife(t *testing.T) {
	r := home(t, "allow: any -> any;")
	for _, life := range []uint32{10, 1, 0} {
		r.ignores(ctl.Msg{Kind: ctl.Join, Sw: 1, Life: life, Ports: 1})
	}
	r.ticks(105, r.pingsAll()...)
}

// With the same life it comes once more, but has thrown away nothing: what it had stays, if its ports are as they were.
func TestJoinOfTheSameLife(t *testing.T) {
	r := home(t, "allow: any -> any;")
	r.lets(ha.at, tcp(t, ha, hb, 1, 2))
	r.joins(1, 11, 255)
	r.wrote()
	if len(r.Flows()) != 1 || len(r.Links()) != 2 {
		t.Error(r.Flows(), r.Links())
	}
	r.joins(1, 11, 255&^2)
	r.wrote()
	// one of a machine, at which somebody is logged in
	r.says(r.rejoin(1, 11, 254&^2), append(r.flushes(), r.said(ctl.Welcome, 1))...)
	r.wrote(logoff("ann", api.ErrDown), r.epoch())
	r.binds(bound(hb, "bob", 1100), bound(hc, "", 1100))
	// one of a link
	r.says(r.rejoin(1, 11, 1), append(r.flushes(), r.said(ctl.Welcome, 1))...)
	r.wrote(r.epoch())
	if len(r.Links()) != 1 {
		t.Error(r.Links())
	}
}

func (r *rig) rejoin(sw int, life uint32, ports int) []ctl.Msg {
	r.passes()
	r.life[sw] = life
	return r.Handle(ctl.Msg{Kind: ctl.Join, Sw: sw, Life: life, Ports: ports}, r.now)
}

// A switch that comes again, in another life, has nothing of what it had: its links and bindings go.
func TestJoinAgain(t *testing.T) {
	r := home(t, "allow: any -> any;")
	r.lets(ha.at, tcp(t, ha, hb, 1, 2))
	r.says(r.rejoin(2, 99, 255), append(r.flushes(), r.said(ctl.Welcome, 2))...)
	r.wrote(logoff("bob", api.ErrDown), r.epoch())
	r.binds(bound(ha, "ann", 1100), bound(hc, "", 1100))
	if len(r.Flows()) != 0 || len(r.Waiting()) != 0 || len(r.Links()) != 0 {
		t.Error(r.Flows(), r.Waiting(), r.Links())
	}
	r.ignores(ctl.Msg{Kind: ctl.Alive, Sw: 2, Life: 12}, ctl.Msg{Kind: ctl.Changed, Sw: 2, Life: 12})
	// also if nothing was there: an epoch begins
	r.says(r.rejoin(2, 100, 0), append(r.flushes(), r.said(ctl.Welcome, 2))...)
	r.wrote(r.epoch())
	r.ticks(105, r.pings([9]int{1: 255, 3: 255})...)
	r.says(r.rejoin(2, 101, 0), append(r.flushes(), r.said(ctl.Welcome, 2))...)
	r.wrote(r.epoch())
}

// Of switches that have not joined, and of other lives, nothing is heard.
func TestOfOtherLives(t *testing.T) {
	r := home(t, "allow: any -> any;")
	b := tcp(t, ha, hb, 1, 2)
	r.says(r.misses(ha.at, b), r.add(api.Hop{Sw: 2, In: 7, Out: 1}, keyOf(t, b), 1, false, true))
	for _, m := range []ctl.Msg{
		{Kind: ctl.Alive, Epoch: 2, Seq: 1},
		{Kind: ctl.Miss, Epoch: 2, Port: 1, Buf: 5, Frame: tcp(t, hb, ha, 1, 2)},
		{Kind: ctl.Miss, Epoch: 2, Port: 1, Buf: 5, Frame: []byte("no frame")},
		{Kind: ctl.Done, Epoch: 2, Seq: 1},
		{Kind: ctl.Changed, Ports: 0},
		{Kind: ctl.Seen, Port: 3, Peer: at(3, 3)},
	} {
		for _, life := range []uint32{0, 1, 11, 13, 12 + 1<<31, math.MaxUint32} {
			m.Sw, m.Life = 2, life
			r.ignores(m)
		}
		for _, sw := range []int{4, 8} {
			for _, life := range []uint32{0, 1, 12} {
				m.Sw, m.Life = sw, life
				r.ignores(m)
			}
		}
	}
	r.ticks(105, append(r.again5(), r.pingsAll()...)...)
}

func TestAlive(t *testing.T) {
	r := home(t, "allow: any -> any;")
	for _, epoch := range []uint32{0, 1, 2, 3, math.MaxUint32} {
		m := r.up(ctl.Alive, 1)
		m.Epoch, m.Seq = epoch, epoch
		r.ignores(m)
	}
}

func TestChanged(t *testing.T) {
	r := home(t, "allow: any -> any;")
	r.lets(ha.at, tcp(t, ha, hb, 1, 2))
	r.says(r.changes(1, 0b10000001)) // ports of nobody
	r.says(r.changes(1, 255))
	r.wrote()
	r.passes()
	r.says(r.changes(1, 0b10000000), r.flushes()...) // ann's
	r.wrote(logoff("ann", api.ErrDown), r.epoch())
	r.binds(bound(hb, "bob", 1100), bound(hc, "", 1100))
	r.says(r.changes(1, 255))
	r.wrote()
	r.says(r.changes(3, 254), r.flushes()...) // hc's: nobody was logged in there
	r.wrote(r.epoch())
	r.says(r.changes(2, 0b01111111), r.flushes()...) // a link's
	r.wrote(r.epoch())
	if l := r.Links(); len(l) != 1 || l[0].A != at(1, 8) {
		t.Error(l)
	}
	r.says(r.changes(2, 0), r.flushes()...)
	r.wrote(logoff("bob", api.ErrDown), r.epoch())
	if r.Epoch() != 6 || len(r.Links()) != 0 || len(r.Bindings()) != 0 {
		t.Error(r.Epoch(), r.Links(), r.Bindings())
	}
	r.ticks(105, r.pings([9]int{1: 255, 3: 254})...)
}

// All bindings of a switch that go at once are logged in the order of Macs, not of ports.
func TestLogInOrder(t *testing.T) {
	r := net(t, 300)
	r.rules("allow: any -> any;")
	one, two, three := host{at(1, 5), ha.mac, service + 1, "ha"}, host{at(1, 2), hb.mac, service + 2, "hb"}, host{at(1, 3), hc.mac, service + 3, "hc"}
	r.leases(one, two, three)
	r.logsIn(one, "eve")
	r.logsIn(two, "ann")
	r.logsIn(three, "bob")
	r.passes()
	r.says(r.changes(1, 0), r.flushes()...)
	r.wrote(logoff("eve", api.ErrDown), logoff("ann", api.ErrDown), logoff("bob", api.ErrDown), r.epoch())
}

func TestSeen(t *testing.T) {
	r := home(t, "allow: any -> any;")
	r.lets(ha.at, tcp(t, ha, hb, 1, 2))
	r.passes()
	r.links(at(1, 8), at(2, 7)) // it is there
	r.links(at(2, 7), at(1, 8))
	r.links(at(1, 3), at(3, 3)) // nobody is at either
	r.links(at(1, 4), at(1, 5)) // of one switch
	r.wrote()
	if len(r.Links()) != 4 || len(r.Flows()) != 1 || r.Epoch() != 2 {
		t.Error(r.Links(), r.Flows(), r.Epoch())
	}
	// a machine's port, at which nobody is logged in
	r.says(r.see(hc.at, at(2, 5)), r.flushes()...)
	r.wrote(r.epoch())
	r.binds(bound(ha, "ann", 1100), bound(hb, "bob", 1100))
	// both ends are machines'
	r.says(r.see(ha.at, hb.at), r.flushes()...)
	r.wrote(logoff("ann", api.ErrDown), logoff("bob", api.ErrDown), r.epoch())
	r.binds()
	// one in place of two others
	r.says(r.see(at(1, 8), at(3, 7)), r.flushes()...)
	r.wrote(r.epoch())
	want := []api.Link{{A: at(1, 1), B: at(2, 1)}, {A: at(1, 3), B: at(3, 3)}, {A: at(1, 4), B: at(1, 5)}, {A: at(1, 8), B: at(3, 7)}, {A: at(2, 5), B: at(3, 1)}}
	if show(r.Links()) != show(want) {
		t.Error(r.Links())
	}
	r.ignores()
}

// The other end of a link: the message's own port, and the one that it names.
func TestSeenAtEitherEnd(t *testing.T) {
	for _, swap := range []bool{false, true} {
		r := home(t, "allow: any -> any;")
		from, to := ha.at, at(3, 3)
		if swap {
			from, to = to, from
		}
		r.passes()
		r.says(r.see(from, to), r.flushes()...)
		r.wrote(logoff("ann", api.ErrDown), r.epoch())
		r.binds(bound(hb, "bob", 1100), bound(hc, "", 1100))
	}
}

// A link of which an end is not up, or whose ends are one port, is none: who is there stays.
func TestSeenOfNoLink(t *testing.T) {
	r := home(t, "allow: any -> any;")
	r.says(r.changes(3, 0b11000001))
	seen := func(from, to api.Place) ctl.Msg {
		m := r.up(ctl.Seen, to.Sw)
		m.Port, m.Peer = to.Port, from
		return m
	}
	r.ignores(seen(ha.at, ha.at), seen(at(4, 1), ha.at), seen(at(8, 8), hb.at), seen(at(3, 2), ha.at), seen(ha.at, at(3, 2)))
}

func TestDone(t *testing.T) {
	r := home(t, "allow: any -> any;")
	r.logsIn(hc, "eve")
	b := tcp(t, ha, hc, 1, 2)
	k := keyOf(t, b)
	last, mid, first := r.add(api.Hop{Sw: 3, In: 7, Out: 1}, k, 1, false, true), r.add(api.Hop{Sw: 2, In: 7, Out: 8}, k, 2, false, false), r.add(api.Hop{Sw: 1, In: 1, Out: 8}, k, 3, true, false)
	r.says(r.misses(ha.at, b), last)
	other := last
	other.Seq = 2
	r.says(r.does(other))
	other = last
	other.Epoch--
	r.says(r.does(other))
	r.says(r.does(last), mid)
	r.says(r.does(last))
	if l := r.Waiting(); len(l) != 1 || l[0] != 1 {
		t.Error(l)
	}
	r.says(r.does(mid), first)
	r.now += config.Retry
	r.says(r.does(mid), first) // what the plans say then
	r.says(r.does(first))
	if len(r.Waiting()) != 0 || len(r.Flows()) != 1 {
		t.Error(r.Waiting(), r.Flows())
	}
	r.says(r.does(first))
}

// What was said ahead of an epoch is told as done behind it: nothing comes of that.
func TestDoneOfAnElderEpoch(t *testing.T) {
	r := home(t, "allow: any -> any;")
	l := r.misses(ha.at, tcp(t, ha, hb, 1, 2))
	r.rules("allow: any -> any;")
	r.says(r.does(l[0]))
	r.lets(ha.at, tcp(t, ha, hb, 1, 2))
	r.says(r.does(l[0]))
	if len(r.Waiting()) != 1 {
		t.Error(r.Waiting())
	}
}

// The power goes in the midst of it: nothing is said.
func TestHandlePower(t *testing.T) {
	calls := map[string]func(r *rig) []ctl.Msg{
		"join":     func(r *rig) []ctl.Msg { return r.rejoin(1, 90, 255) },
		"changed":  func(r *rig) []ctl.Msg { return r.changes(1, 0) },
		"seen":     func(r *rig) []ctl.Msg { return r.see(ha.at, hb.at) },
		"let in":   func(r *rig) []ctl.Msg { return r.misses(ha.at, tcp(t, ha, hb, 7, 8)) },
		"denied":   func(r *rig) []ctl.Msg { return r.misses(hc.at, tcp(t, hc, hb, 7, 8)) },
		"request":  func(r *rig) []ctl.Msg { return r.lease(ha, request(ha)) },
		"release":  func(r *rig) []ctl.Msg { return r.lease(ha, release(ha)) },
		"login":    func(r *rig) []ctl.Msg { return r.auth(ha, proof(ha, 9, "eve", r.challenged(ha, "eve"))) },
		"logout":   func(r *rig) []ctl.Msg { return r.auth(ha, proof(ha, 12, "ann", 1)) },
		"revoke":   func(r *rig) []ctl.Msg { l, _ := r.Revoke("ann", r.now); return l },
		"policy":   func(r *rig) []ctl.Msg { l, _, _ := r.Policy("", r.now); return l },
		"user":     func(r *rig) []ctl.Msg { r.User("zoe", secret("zoe"), r.now); return nil },
		"machine":  func(r *rig) []ctl.Msg { r.Host("hz", 0xEE, r.now); return nil },
		"the tick": func(r *rig) []ctl.Msg { r.now = 1100; return r.Tick(r.now) },
	}
	for what, call := range calls {
		for acts := 1; ; acts++ {
			r := home(t, "allow: any -> any;")
			r.d.Arm(acts, 64, 0, 30)
			l := call(r)
			if !r.Dead() {
				if acts < 3 {
					t.Error(what, "is not written down, or not synced", acts)
				}
				break
			}
			if len(l) != 0 {
				t.Error(what, l)
			}
			tellsNothing(t, r.Ctrl, r.now)
			r.again()
			if r.Epoch() < 3 || r.Dead() {
				t.Error(what, r.Epoch())
			}
		}
	}
}

// Who runs it is told ErrDown, also by the call in which it dies.
func TestErrDown(t *testing.T) {
	for acts := 1; acts <= 2; acts++ {
		for _, call := range []func(r *rig) api.Errno{
			func(r *rig) api.Errno { _, _, e := r.Policy("", r.now); return e },
			func(r *rig) api.Errno { _, e := r.Revoke("eve", r.now); return e },
			func(r *rig) api.Errno { return r.User("zoe", secret("zoe"), r.now) },
			func(r *rig) api.Errno { return r.Host("hz", 0xEE, r.now) },
			func(r *rig) api.Errno { return r.Compact(r.now) },
			func(r *rig) api.Errno { r.d.Arm(acts + 2); _, _, e := r.Policy("", r.now); return e },
			func(r *rig) api.Errno { r.d.Arm(acts + 2); _, e := r.Revoke("ann", r.now); return e },
			func(r *rig) api.Errno { r.d.Arm(acts + 4); _, e := r.Revoke("ann", r.now); return e },
		} {
			r := home(t, "allow: any -> any;")
			r.d.Arm(acts)
			r.is(call(r), api.ErrDown)
			tellsNothing(t, r.Ctrl, r.now)
		}
	}
}

// At each port, the first and the last one, too: who is there is so no more when it goes down, or its switch comes again.
func TestLeaveAtEachPort(t *testing.T) {
	for port := 1; port <= 8; port++ {
		h := ha
		h.at = at(5, port)
		for _, again := range []bool{false, true} {
			r := net(t, 300)
			r.joins(5, 50, 255)
			r.leases(h)
			r.logsIn(h, "ann")
			r.passes()
			if again {
				r.says(r.rejoin(5, 51, 255), append(r.flushes(), r.said(ctl.Welcome, 5))...)
			} else {
				r.says(r.changes(5, 255&^(1<<(port-1))), r.flushes()...)
			}
			r.wrote(logoff("ann", api.ErrDown), r.epoch())
			r.binds()
		}
	}
}
