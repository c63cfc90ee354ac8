package ctrl_test

import (
	"math"
	"testing"

	"ostiary/api"
	"ostiary/audit"
	"ostiary/ctl"
)

// P29.3.

func (r *rig) ticks(now int64, want ...ctl.Msg) {
	r.Helper()
	r.now = now
	r.passes()
	r.says(r.Tick(now), want...)
}

func (r *rig) unlet(h host) audit.Rec {
	return audit.Rec{Kind: audit.Unlet, Mac: h.mac, Ip: h.ip}
}

func (r *rig) probe(sw, port int) ctl.Msg {
	return ctl.Msg{Kind: ctl.Probe, Sw: sw, Life: r.life[sw], Port: port}
}

// pings are those of all that have joined, and the probes of ports that are up: their bits by switches.
func (r *rig) pings(up [9]int) []ctl.Msg {
	var l []ctl.Msg
	for sw, life := range r.life {
		if life != 0 {
			l = append(l, r.said(ctl.Ping, sw))
		}
	}
	for sw, bits := range up {
		for port := 1; port <= 8; port++ {
			if bits>>(port-1)&1 == 1 {
				l = append(l, r.probe(sw, port))
			}
		}
	}
	return l
}

func TestTickOfNothing(t *testing.T) {
	r := made(t, 100, config)
	for now := r.now; now < 200; now++ {
		r.ticks(now)
		r.wrote()
	}
	if r.Epoch() != 1 {
		t.Error(r.Epoch())
	}
}

func TestPings(t *testing.T) {
	r := made(t, 100, config)
	r.joins(3, 31, 0b10000001)
	r.joins(2, 21, 0)
	for now := int64(101); now < 150; now++ {
		if now%config.Ping == 0 {
			r.ticks(now, r.pings([9]int{3: 0b10000001})...)
		} else {
			r.ticks(now)
		}
		r.wrote()
	}
	r.joins(8, 81, 0b1011)
	r.changes(3, 0b10)
	r.ticks(154, r.pings([9]int{3: 0b10, 8: 0b1011})...)
	r.ticks(0, r.pings([9]int{3: 0b10, 8: 0b1011})...)
	r.ticks(161, r.pings([9]int{3: 0b10, 8: 0b1011})...)
}

func TestEachPing(t *testing.T) {
	for _, ping := range []int64{1, 2, 10, 65535} {
		c := config
		c.Ping = ping
		r := made(t, 100, c)
		r.joins(5, 1, 1)
		for _, now := range []int64{100, 101, 102, 110, 65534, 65535, 65536, 131070} {
			if now%ping == 0 {
				r.ticks(now, r.pings([9]int{5: 1})...)
			} else {
				r.ticks(now)
			}
		}
	}
}

// A lease that is over, and its binding: who is logged in there is logged off, and an epoch begins.
func TestLeasesAreOver(t *testing.T) {
	r := home(t, "allow: any -> any;") // leases and bindings till 1100
	r.now = 200
	r.leases(hb) // hb's is renewed: till 1200
	r.refresh(1099)
	r.lets(hb.at, tcp(t, hb, ha, 1, 2))
	r.ticks(1100, r.after(1)...)
	r.wrote(r.unlet(ha), r.unlet(hc), logoff("ann", api.ErrNone), r.epoch())
	if len(r.Flows()) != 0 || len(r.Waiting()) != 0 {
		t.Error(r.Flows(), r.Waiting())
	}
	r.binds(bound(hb, "bob", 1200))
	if l := r.State().Leases(); len(l) != 1 || l[0].Mac != hb.mac {
		t.Error(l)
	}
	r.refresh(1199)
	r.ticks(1200, r.after(1)...)
	r.wrote(r.unlet(hb), logoff("bob", api.ErrNone), r.epoch())
	r.binds()
}

// refresh: all links are seen once more, at that time, some of them the other way round.
func (r *rig) refresh(now int64) {
	r.Helper()
	r.now = now
	for i, l := range r.Links() {
		if i%2 == 1 {
			l.A, l.B = l.B, l.A
		}
		r.links(l.A, l.B)
	}
}

// after is what is said where so many epochs begin: flushes of epochs that the controller will have. (1100 and 1200 are no times of pings: 7 divides neither.)
func (r *rig) after(epochs int) []ctl.Msg {
	l := r.flushes()
	for i := range l {
		l[i].Epoch += uint32(epochs)
	}
	return l
}

// A binding at which nobody is logged in: an epoch begins, too. A lease without a binding: none does.
func TestLeasesWithoutUsers(t *testing.T) {
	r := net(t, 300)
	r.leases(hc)
	r.now = 150
	r.leases(ha)
	r.says(r.changes(1, 254), r.flushes()...) // ha's binding goes, its lease stays
	r.wrote(r.epoch())
	r.binds(bound(hc, "", 1100))
	r.refresh(1090)
	r.ticks(1100, r.after(1)...)
	r.wrote(r.unlet(hc), r.epoch())
	r.refresh(1149)
	r.ticks(1149)
	r.wrote()
	r.ticks(1150)
	r.wrote(r.unlet(ha))
	if l := r.State().Leases(); len(l) != 0 {
		t.Error(l)
	}
}

func TestLinksAge(t *testing.T) {
	r := home(t, "allow: any -> any;") // seen at 100
	r.now = 110
	r.links(at(2, 7), at(1, 8)) // the other way round is the same link
	r.lets(ha.at, tcp(t, ha, hb, 1, 2))
	r.ticks(139, r.again5()...)
	r.ticks(140, r.pingsAll()...)
	r.wrote()
	if len(r.Links()) != 2 || len(r.Flows()) != 1 {
		t.Error(r.Links(), r.Flows())
	}
	r.ticks(141, r.after(1)...)
	r.wrote(r.epoch())
	if l := r.Links(); len(l) != 1 || l[0] != (api.Link{A: at(1, 8), B: at(2, 7)}) || len(r.Flows()) != 0 {
		t.Error(l, r.Flows())
	}
	r.ticks(150)
	r.ticks(151, r.after(1)...)
	r.wrote(r.epoch())
	if len(r.Links()) != 0 {
		t.Error(r.Links())
	}
	r.binds(bound(ha, "ann", 1100), bound(hb, "bob", 1100), bound(hc, "", 1100))
	r.ticks(152)
	r.wrote()
}

// again5: the one plan that there is says its hop again.
func (r *rig) again5() []ctl.Msg {
	f := r.Flows()[0]
	last := f.Path[len(f.Path)-1]
	return []ctl.Msg{r.add(last, f.Key, 1, len(f.Path) == 1, true)}
}

func (r *rig) pingsAll() []ctl.Msg { return r.pings([9]int{1: 255, 2: 255, 3: 255}) }

// What the plans say stands ahead of pings, and is said again after Retry ticks.
func TestTickOfPlans(t *testing.T) {
	r := home(t, "allow: any -> any;")
	b := tcp(t, ha, hb, 1, 2)
	r.says(r.misses(ha.at, b), r.add(api.Hop{Sw: 2, In: 7, Out: 1}, keyOf(t, b), 1, false, true))
	again := r.again5()
	r.ticks(104)
	r.ticks(105, append(again, r.pingsAll()...)...)
	r.ticks(109)
	r.ticks(110, again...)
	r.says(r.does(again[0]), r.add(api.Hop{Sw: 1, In: 1, Out: 8}, keyOf(t, b), 2, true, false))
	r.ticks(112, r.pingsAll()...)
	r.ticks(115, r.add(api.Hop{Sw: 1, In: 1, Out: 8}, keyOf(t, b), 2, true, false))
	r.ticks(119, r.pingsAll()...)
	r.wrote()
}

// All at one time: leases, bindings, links, and a ping.
func TestTickOfAll(t *testing.T) {
	r := net(t, 300)
	r.now = 106
	r.leases(ha, hb, hc)
	r.logsIn(ha, "ann")
	r.logsIn(hc, "eve")
	r.rules("allow: any -> any;")
	r.now = 1106 // 7 divides it
	r.lets(ha.at, tcp(t, ha, hc, 1, 2))
	want := r.after(1)
	ping := r.pingsAll()
	for i := range 3 {
		ping[i].Epoch++
	}
	r.ticks(1106, append(want, ping...)...)
	r.wrote(r.unlet(ha), r.unlet(hb), r.unlet(hc), logoff("ann", api.ErrNone), logoff("eve", api.ErrNone), r.epoch())
	r.binds()
	if len(r.Links()) != 0 || len(r.Flows()) != 0 || r.Epoch() != 3 {
		t.Error(r.Links(), r.Flows(), r.Epoch())
	}
	r.ticks(1106, r.pingsAll()...)
	r.wrote()
}

// Where the journal has no block left an Unlet is as if it had been written; an Epoch is not.
func TestTickWithoutRoom(t *testing.T) {
	r := net(t, 90) // banks of 44 blocks
	r.leases(ha)
	r.says(r.changes(1, 254), r.flushes()...) // ha's binding goes
	r.fill()
	r.refresh(1099)
	r.ticks(1100)
	r.wrote()
	if r.Dead() || len(r.State().Leases()) != 1 {
		t.Error(r.Dead(), r.State().Leases())
	}
	r.ticks(1101)
	r.wrote()
	r.ticks(1140) // the links are over: there is an Epoch to be written
	r.wrote()
	tellsNothing(t, r.Ctrl, r.now)
}

// fill leaves the journal no block: links come in place of others, and an epoch begins each time.
func (r *rig) fill() {
	r.Helper()
	r.links(at(1, 2), at(1, 3))
	for i := 0; r.Room() > 0; i++ {
		r.says(r.see(at(1, 2+(i+1)%3), at(1, 2+(i+2)%3)), r.flushes()...)
	}
}

// The power goes in the midst of it.
func TestTickPower(t *testing.T) {
	for acts := 1; acts <= 10; acts++ {
		r := home(t, "allow: any -> any;")
		r.refresh(1099)
		r.now = 1100
		r.d.Arm(acts, 64)
		l := r.Tick(r.now)
		if r.Dead() && len(l) != 0 || !r.Dead() {
			t.Error(l)
		}
		tellsNothing(t, r.Ctrl, r.now)
		r.again()
		if len(r.State().Leases()) > 3 || len(r.Bindings()) != 0 || r.Epoch() != 3 && r.Epoch() != 4 {
			t.Error(r.State().Recs(0), r.Bindings())
		}
	}
}

// P1: of times that may not be calls end.
func TestOtherTimes(t *testing.T) {
	for _, now := range []int64{math.MinInt64, -1, api.MaxTime - 1, api.MaxTime, math.MaxInt64} {
		r := home(t, "allow: any -> any;")
		r.lets(ha.at, tcp(t, ha, hb, 1, 2))
		r.Tick(now)
		r.Handle(r.up(ctl.Alive, 1), now)
		r.now = now
		r.lease(hc, discover(hc))
		r.lease(hc, request(hc))
		r.see(at(1, 1), at(2, 1))
		r.misses(ha.at, tcp(t, ha, hb, 1, 3))
		r.Compact(now)
		r.Tick(now)
	}
}

// One that dies has nothing to say, though a plan waits, and it is time for a ping.
func TestTickOfOneThatDies(t *testing.T) {
	r := home(t, "allow: any -> any;")
	r.lets(ha.at, tcp(t, ha, hb, 1, 2))
	r.now = 1120 // 7 divides it
	r.d.Arm(1)
	r.says(r.Tick(r.now))
	tellsNothing(t, r.Ctrl, r.now)
}
