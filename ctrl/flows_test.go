package ctrl_test

import (
	"testing"

	"ostiary/api"
	"ostiary/audit"
	"ostiary/ctl"
	"ostiary/frame"
	"ostiary/ledger"
	"ostiary/pol"
)

// P29.8.

// flowOf is one that was let in.
func (r *rig) flowOf(id uint32, b []byte, from, to host, src, dst string, act, rule int, path ...api.Hop) ledger.Flow {
	return ledger.Flow{
		Id: id, Epoch: r.Epoch(), Key: keyOf(r.T, b), From: from.at, To: to.at,
		Src: audit.Who{User: src, Host: from.name}, Dst: audit.Who{User: dst, Host: to.name},
		Act: act, Rule: rule, Path: path,
	}
}

// admits fails unless a flow is let in as the last one, and its last hop is asked for, by that number.
func (r *rig) admits(b []byte, f ledger.Flow, seq uint32) {
	r.Helper()
	r.passes()
	n := len(f.Path)
	r.says(r.misses(f.From, b), r.add(f.Path[n-1], f.Key, seq, n == 1, true))
	r.wrote(f.Rec(r.now))
	l := r.Flows()
	if len(l) == 0 || !ledger.Same(l[len(l)-1], f) {
		r.Errorf("%+v, not %+v", l, f)
	}
	if w := r.Waiting(); len(w) == 0 || w[len(w)-1] != f.Id {
		r.Error("no plan", w)
	}
}

var toB = []api.Hop{{Sw: 1, In: 1, Out: 8}, {Sw: 2, In: 7, Out: 1}}
var toA = []api.Hop{{Sw: 2, In: 1, Out: 7}, {Sw: 1, In: 8, Out: 1}}

func TestAllow(t *testing.T) {
	r := home(t, "deny: eve -> any; allow: ann -> bob tcp port 80;")
	b := tcp(t, ha, hb, 4000, 80)
	r.admits(b, r.flowOf(1, b, ha, hb, "ann", "bob", pol.Allow, 1, toB...), 1)
	r.denies(ha.at, tcp(t, ha, hb, 4000, 81), api.ErrDenied)
	r.denies(hb.at, tcp(t, hb, ha, 80, 4000), api.ErrDenied) // there is no way back of what Allow let in
	b = tcp(t, ha, hb, 4001, 80)
	r.now++
	r.admits(b, r.flowOf(2, b, ha, hb, "ann", "bob", pol.Allow, 1, toB...), 2)
}

// All protocols, and ports as the policy has them.
func TestProtocols(t *testing.T) {
	r := home(t, "allow: ann -> bob udp port 7-9; allow: ann -> bob ip 1; allow: ann -> bob ip 200;")
	seq := uint32(0)
	for _, c := range []struct {
		proto, port, rule int
	}{{api.Udp, 6, -1}, {api.Udp, 7, 0}, {api.Udp, 9, 0}, {api.Udp, 10, -1}, {api.Tcp, 7, -1}, {1, 0, 1}, {2, 0, -1}, {200, 0, 2}, {0, 0, -1}} {
		f := frame.Frame{Src: ha.mac, Dst: hb.mac, Type: api.TypeIp, Head: frame.Head{Src: ha.ip, Dst: hb.ip, Proto: c.proto}}
		if c.port != 0 {
			f.Ends = frame.Ends{Sport: 50, Dport: c.port}
		}
		b := bytesOf(t, f)
		if c.rule < 0 {
			r.denies(ha.at, b, api.ErrDenied)
			continue
		}
		seq++
		r.admits(b, r.flowOf(seq, b, ha, hb, "ann", "bob", pol.Allow, c.rule, toB...), seq)
	}
}

func TestOutbound(t *testing.T) {
	r := home(t, "deny: any -> eve; outbound: ann -> bob;")
	back := tcp(t, hb, ha, 80, 4000)
	r.denies(hb.at, back, api.ErrDenied)
	b := tcp(t, ha, hb, 4000, 80)
	r.admits(b, r.flowOf(1, b, ha, hb, "ann", "bob", pol.Outbound, 1, toB...), 1)
	r.denies(hb.at, tcp(t, hb, ha, 81, 4000), api.ErrDenied)
	r.denies(hb.at, tcp(t, hb, ha, 80, 4001), api.ErrDenied)
	r.denies(ha.at, tcp(t, ha, hc, 4000, 80), api.ErrNone)
	r.admits(back, r.flowOf(2, back, hb, ha, "bob", "ann", pol.Allow, 1, toA...), 2)
	r.rules("outbound: ann -> bob;")
	r.denies(hb.at, back, api.ErrDenied) // in the epoch that is now nothing was let in
}

// The way back of a way back is none: it is as by Allow.
func TestNoWayBackOfAWayBack(t *testing.T) {
	r := home(t, "deny: any -> eve; outbound: ann -> bob tcp port 80;")
	b, back := tcp(t, ha, hb, 4000, 80), tcp(t, hb, ha, 80, 4000)
	r.lets(ha.at, b)
	r.lets(hb.at, back)
	if l := r.Flows(); l[0].Act != pol.Outbound || l[1].Act != pol.Allow || l[1].Rule != 1 {
		t.Error(l)
	}
}

// What the policy allows is by its own rule, also if it is a way back.
func TestAllowedWayBack(t *testing.T) {
	r := home(t, "outbound: ann -> bob; via 1: bob -> ann;")
	r.lets(ha.at, tcp(t, ha, hb, 4000, 80))
	back := tcp(t, hb, ha, 80, 4000)
	r.admits(back, r.flowOf(2, back, hb, ha, "bob", "ann", pol.Via, 1, toA...), 2)
}

// A way back is just that from the one port to the other one, though all of its key fits.
func TestWayBackAtAnotherPort(t *testing.T) {
	r := home(t, "outbound: ann -> bob;")
	b, back := tcp(t, ha, hb, 4000, 80), tcp(t, hb, ha, 80, 4000)
	r.lets(ha.at, b)
	h := hb
	h.at = at(2, 2)
	r.denies(h.at, back, api.ErrNone)
	r.denies(ha.at, back, api.ErrSpoof)
	r.lets(hb.at, back)
}

func TestVia(t *testing.T) {
	r := home(t, "via 2, 3: ann -> bob; via 4: bob -> ann; via 2: eve -> ann;")
	b := tcp(t, ha, hb, 4000, 80)
	path := []api.Hop{{Sw: 1, In: 1, Out: 8}, {Sw: 2, In: 7, Out: 8}, {Sw: 3, In: 7, Out: 7}, {Sw: 2, In: 8, Out: 1}} // there and back
	r.admits(b, r.flowOf(1, b, ha, hb, "ann", "bob", pol.Via, 0, path...), 1)
	r.denies(hb.at, tcp(t, hb, ha, 80, 4000), api.ErrPath) // there is no switch 4
	r.logsIn(hc, "eve")
	b = tcp(t, hc, ha, 1, 2)
	r.admits(b, r.flowOf(2, b, hc, ha, "eve", "ann", pol.Via, 2, api.Hop{Sw: 3, In: 1, Out: 7}, api.Hop{Sw: 2, In: 8, Out: 7}, api.Hop{Sw: 1, In: 8, Out: 1}), 2)
}

// Of two ways there the one by the least ports out.
func TestViaByTheLeastPorts(t *testing.T) {
	r := home(t, "via 2, 3: ann -> bob;")
	r.links(at(2, 6), at(3, 6))
	b := tcp(t, ha, hb, 4000, 80)
	path := []api.Hop{{Sw: 1, In: 1, Out: 8}, {Sw: 2, In: 7, Out: 6}, {Sw: 3, In: 6, Out: 6}, {Sw: 2, In: 6, Out: 1}}
	r.admits(b, r.flowOf(1, b, ha, hb, "ann", "bob", pol.Via, 0, path...), 1)
}

// At one switch a path is one hop, which is the first one, and the last.
func TestOneHop(t *testing.T) {
	r := net(t, 300)
	r.rules("allow: any -> any;")
	h := hb
	h.at = at(1, 2)
	r.leases(ha, h)
	r.logsIn(ha, "ann")
	r.logsIn(h, "bob")
	b := tcp(t, ha, h, 4000, 80)
	f := r.flowOf(1, b, ha, h, "ann", "bob", pol.Allow, 0, api.Hop{Sw: 1, In: 1, Out: 2})
	r.admits(b, f, 1)
	r.says(r.does(r.add(f.Path[0], f.Key, 1, true, true)))
	if len(r.Waiting()) != 0 {
		t.Error(r.Waiting())
	}
}

// To himself nobody has a path.
func TestToHimself(t *testing.T) {
	r := home(t, "allow: any -> any;")
	r.denies(ha.at, tcp(t, ha, ha, 1, 2), api.ErrPath)
}

// Who is not bound, or not logged in, or passes for another one.
func TestDeniedSources(t *testing.T) {
	r := home(t, "allow: any -> any;")
	r.denies(at(1, 2), tcp(t, ha, hb, 1, 2), api.ErrNone)
	r.denies(hc.at, tcp(t, hc, hb, 1, 2), api.ErrAuth)
	r.denies(hb.at, tcp(t, ha, hb, 1, 2), api.ErrSpoof)
	r.denies(ha.at, tcp(t, host{mac: hb.mac, ip: ha.ip}, hb, 1, 2), api.ErrSpoof)
	r.denies(ha.at, tcp(t, host{mac: ha.mac, ip: hb.ip}, hb, 1, 2), api.ErrSpoof)
	r.denies(hc.at, tcp(t, host{mac: ha.mac, ip: ha.ip}, hb, 1, 2), api.ErrSpoof)
	// ahead of all that is said of where it goes
	r.denies(at(1, 2), tcp(t, ha, host{}, 1, 2), api.ErrNone)
	r.denies(hc.at, tcp(t, hc, host{}, 1, 2), api.ErrAuth)
	r.denies(hb.at, tcp(t, ha, host{}, 1, 2), api.ErrSpoof)
}

func TestDeniedDestinations(t *testing.T) {
	r := home(t, "deny: any -> any;")
	r.denies(ha.at, tcp(t, ha, host{mac: hb.mac, ip: service + 5}, 1, 2), api.ErrNone)
	r.denies(ha.at, tcp(t, ha, host{mac: serviceMac, ip: service}, 1, 2), api.ErrNone)
	r.denies(ha.at, tcp(t, ha, host{mac: hc.mac, ip: hb.ip}, 1, 2), api.ErrNone)
	r.denies(ha.at, tcp(t, ha, host{mac: api.Anybody, ip: hb.ip}, 1, 2), api.ErrNone)
	r.denies(ha.at, tcp(t, ha, hc, 1, 2), api.ErrNone) // nobody is logged in there
	r.denies(ha.at, tcp(t, ha, hb, 1, 2), api.ErrDenied)
}

func TestNoPath(t *testing.T) {
	r := home(t, "allow: any -> bob; deny: any -> any;")
	r.says(r.changes(2, 0b10000001), r.flushes()...)
	r.denies(ha.at, tcp(t, ha, hb, 1, 2), api.ErrPath)
	r.denies(hb.at, tcp(t, hb, ha, 1, 2), api.ErrDenied) // ahead of that
	r.says(r.changes(2, 255))
	r.links(at(1, 8), at(2, 7))
	r.lets(ha.at, tcp(t, ha, hb, 1, 2))
}

// A flow that was let in is not asked about again: its path is put in anew, if it is whole.
func TestKnownFlow(t *testing.T) {
	r := home(t, "allow: any -> any;")
	b := tcp(t, ha, hb, 4000, 80)
	f := r.flowOf(1, b, ha, hb, "ann", "bob", pol.Allow, 0, toB...)
	r.admits(b, f, 1)
	last, first := r.add(toB[1], f.Key, 1, false, true), r.add(toB[0], f.Key, 2, true, false)
	r.says(r.misses(ha.at, b)) // it is on its way
	r.now += config.Retry
	r.says(r.misses(ha.at, b), last) // what the plans say then
	r.says(r.does(last), first)
	r.says(r.misses(ha.at, b))
	r.says(r.does(first))
	last.Seq, first.Seq = 3, 4
	r.says(r.misses(ha.at, b), last)
	r.says(r.does(last), first)
	r.says(r.does(first))
	r.wrote()
	if l := r.Flows(); len(l) != 1 || !ledger.Same(l[0], f) || len(r.Waiting()) != 0 {
		t.Error(l, r.Waiting())
	}
	// a plan of another flow is said, too
	r.lets(ha.at, tcp(t, ha, hb, 4001, 80))
	last.Seq = 5
	other := last
	other.Key.Sport, other.Seq = 4001, 5
	last.Seq = 6
	r.now += config.Retry
	r.says(r.misses(ha.at, b), last, other)
}

// The very same frame at another port is somebody else's, whoever is there.
func TestKnownFlowFromAnotherPort(t *testing.T) {
	r := home(t, "allow: any -> any;")
	b := tcp(t, ha, hb, 4000, 80)
	r.lets(ha.at, b)
	r.denies(at(1, 2), b, api.ErrSpoof) // not ErrNone
	r.denies(hb.at, b, api.ErrSpoof)
	r.denies(hc.at, b, api.ErrSpoof) // not ErrAuth
	if len(r.Waiting()) != 1 {
		t.Error(r.Waiting())
	}
}

// With the lives of all switches of its path.
func TestLivesOfPlans(t *testing.T) {
	r := home(t, "allow: any -> any;")
	r.says(r.rejoin(1, 0xFFFF0000, 255), append(r.flushes(), r.said(ctl.Welcome, 1))...)
	r.links(at(1, 8), at(2, 7))
	r.leases(ha)
	r.logsIn(ha, "ann")
	b := tcp(t, ha, hb, 1, 2)
	f := r.flowOf(1, b, ha, hb, "ann", "bob", pol.Allow, 0, toB...)
	r.admits(b, f, 1)
	r.says(r.does(r.add(toB[1], f.Key, 1, false, true)), r.add(toB[0], f.Key, 2, true, false))
}

// The ledger has room for so many flows.
func TestLedgerFull(t *testing.T) {
	for _, most := range []int{1, 3, 30} {
		c := config
		c.Flows = most
		r := made(t, 512, c)
		r.is(r.User("ann", secret("ann"), r.now), api.OK)
		r.is(r.User("bob", secret("bob"), r.now), api.OK)
		r.is(r.Host("ha", ha.mac, r.now), api.OK)
		r.is(r.Host("hb", hb.mac, r.now), api.OK)
		r.wires()
		r.rules("allow: any -> any;")
		r.leases(ha, hb)
		r.logsIn(ha, "ann")
		r.logsIn(hb, "bob")
		for i := range most {
			r.lets(ha.at, tcp(t, ha, hb, 4000, i))
		}
		r.denies(ha.at, tcp(t, ha, hb, 4000, 999), api.ErrFull)
		r.says(r.misses(ha.at, tcp(t, ha, hb, 4000, 0))) // it has that one
		r.rules("allow: any -> any;")
		r.lets(ha.at, tcp(t, ha, hb, 4000, 999))
	}
}

// Behind an Admit the reserve is left; twice as much behind a Deny, and if there is no room for that, none is written.
func TestReserveOfFlows(t *testing.T) {
	r := home(t, "allow: any -> any;")
	for r.Room() > 17 {
		r.fillOne()
	}
	r.denies(hc.at, tcp(t, hc, hb, 1, 2), api.ErrAuth)
	if r.Room() != 16 {
		t.Fatal(r.Room())
	}
	r.freed(hc.at, tcp(t, hc, hb, 1, 2)) // it is denied all the same
	for r.Room() > 10 {
		r.fillOne()
	}
	b := tcp(t, ha, hb, 1, 2) // 2 blocks
	r.admits(b, r.flowOf(1, b, ha, hb, "ann", "bob", pol.Allow, 0, toB...), 1)
	if r.Room() != 8 {
		t.Fatal(r.Room())
	}
	r.freed(ha.at, tcp(t, ha, hb, 1, 3))
	if r.Dead() {
		t.Error("dead")
	}
}

// One block less than a record needs.
func TestNoRoomForAFlow(t *testing.T) {
	r := home(t, "allow: any -> any;")
	for r.Room() > 9 {
		r.fillOne()
	}
	r.freed(ha.at, tcp(t, ha, hb, 1, 2))
	r.is(r.Compact(r.now), api.OK)
	r.lets(ha.at, tcp(t, ha, hb, 1, 2))
}

// A frame to a machine on which somebody else is logged in now.
func TestWhoTalksToWhom(t *testing.T) {
	r := home(t, "group g = ha; allow: ann & g -> bob & !hc; allow: eve -> any;")
	r.lets(ha.at, tcp(t, ha, hb, 1, 2))
	r.denies(hb.at, tcp(t, hb, ha, 1, 2), api.ErrDenied)
	r.logsIn(hc, "bob")
	r.denies(ha.at, tcp(t, ha, hc, 1, 2), api.ErrDenied)
	nonce := r.challenged(ha, "eve")
	r.auth(ha, proof(ha, 9, "eve", nonce))
	r.seq += 3
	b := tcp(t, ha, hc, 1, 2)
	r.admits(b, r.flowOf(2, b, ha, hc, "eve", "bob", pol.Allow, 1, api.Hop{Sw: 1, In: 1, Out: 8}, api.Hop{Sw: 2, In: 7, Out: 8}, api.Hop{Sw: 3, In: 7, Out: 1}), 2)
}
