package ctrl_test

import (
	"testing"

	"ostiary/api"
	"ostiary/audit"
	"ostiary/pool"
	"ostiary/talk"
)

// P29.6.

func offered(h host, ip api.Ip) talk.Msg {
	return talk.Msg{Kind: talk.Offer, Xid: 7, Mac: h.mac, Ip: ip, Ticks: config.Lease}
}

func TestDiscover(t *testing.T) {
	r := net(t, 300)
	r.passes()
	was := r.standing()
	for _, h := range []host{ha, hb, ha, hc} { // nothing is let by it
		r.says(r.lease(h, discover(h)), r.answers(h, api.LeasePort, offered(h, service+1)), r.free(h.at))
	}
	r.wrote()
	if is := r.standing(); is != was {
		t.Error(was, is)
	}
	r.leases(ha)
	r.says(r.lease(hb, discover(hb)), r.answers(hb, api.LeasePort, offered(hb, service+2)), r.free(hb.at))
	r.says(r.lease(ha, discover(ha)), r.answers(ha, api.LeasePort, offered(ha, service+1)), r.free(ha.at))
}

// alone is a controller with one address, and two machines.
func alone(t *testing.T) *rig {
	t.Helper()
	c := config
	c.Hosts = 1
	r := made(t, 300, c)
	r.is(r.User("ann", secret("ann"), r.now), api.OK)
	r.is(r.Host("ha", ha.mac, r.now), api.OK)
	r.is(r.Host("hb", hb.mac, r.now), api.OK)
	r.wires()
	return r
}

func TestDiscoverErrFull(t *testing.T) {
	r := alone(t)
	r.leases(ha)
	r.passes()
	r.says(r.lease(hb, discover(hb)), r.answers(hb, api.LeasePort, refused(hb, 7, api.ErrFull)), r.free(hb.at))
	r.wrote()
}

func TestRequestErrors(t *testing.T) {
	r := net(t, 300)
	r.leases(ha)
	for _, c := range []struct {
		ip api.Ip
		e  api.Errno
	}{{ha.ip, api.ErrThere}, {service, api.ErrRange}, {service + 9, api.ErrRange}, {0, api.ErrRange}, {everybody, api.ErrRange}} {
		h := hb
		h.ip = c.ip
		r.passes()
		was := r.standing()
		r.says(r.lease(h, request(h)), r.answers(h, api.LeasePort, refused(h, 8, c.e)), r.free(h.at))
		r.wrote()
		if is := r.standing(); is != was {
			t.Error(was, is)
		}
	}
}

// What is about another machine, or of one that nobody knows, or no message about leases, is nothing.
func TestLeasesOfNothing(t *testing.T) {
	r := home(t, "allow: any -> any;")
	other := host{at(1, 2), 0xEE, service + 5, ""}
	r.freed(other.at, r.asks(other, everybody, api.LeasePort, discover(other)))
	r.freed(other.at, r.asks(other, everybody, api.LeasePort, request(other)))
	for _, m := range []talk.Msg{
		discover(hb), request(hb), release(hb),
		offered(ha, ha.ip), granted(ha), refused(ha, 8, 3),
		{Kind: talk.Hello, User: "ann"}, {Kind: talk.Challenge, User: "ann"}, {Kind: talk.Accept, User: "ann"},
		proof(ha, talk.Response, "ann", 1), proof(ha, talk.Logout, "ann", 1),
	} {
		r.freed(ha.at, r.asks(ha, everybody, api.LeasePort, m))
		r.freed(ha.at, r.asks(ha, service, api.LeasePort, m))
	}
	for _, b := range [][]byte{nil, {0}, []byte("OS"), make([]byte, 400)} {
		r.freed(ha.at, bytesOf(t, udp(ha.mac, serviceMac, ha.ip, everybody, 68, api.LeasePort, b)))
	}
}

// A machine with the Mac 0, which messages have that are about no lease.
func TestLeaseOfMacNought(t *testing.T) {
	r := net(t, 300)
	r.is(r.Host("h0", 0, r.now), api.OK)
	h := host{at(1, 2), 0, service + 1, "h0"}
	r.leases(h)
	r.logsIn(h, "ann")
	for _, m := range []talk.Msg{{Kind: talk.Hello, User: "ann"}, proof(h, talk.Logout, "ann", 1)} {
		r.freed(h.at, r.asks(h, everybody, api.LeasePort, m))
	}
}

// At once at the service's address, and as everybody.
func TestRequest(t *testing.T) {
	r := net(t, 300)
	l := r.misses(ha.at, r.asks(ha, service, api.LeasePort, request(ha)))
	r.says(l, r.answers(ha, api.LeasePort, granted(ha)), r.free(ha.at))
	r.wrote(r.leased(ha))
	r.binds(bound(ha, "", 1100))
	if l := r.State().Leases(); len(l) != 1 || l[0] != (pool.Lease{Mac: ha.mac, Ip: ha.ip, Until: 1100}) {
		t.Error(l)
	}
	r.leases(hc)
	r.binds(bound(ha, "", 1100), bound(hc, "", 1100))
}

// What is renewed: who is logged in there stays, and so do flows.
func TestRequestAgain(t *testing.T) {
	r := home(t, "allow: any -> any;")
	r.lets(ha.at, tcp(t, ha, hb, 1, 2))
	r.now = 500
	r.leases(ha)
	r.binds(bound(ha, "ann", 1500), bound(hb, "bob", 1100), bound(hc, "", 1100))
	if len(r.Flows()) != 1 || r.Epoch() != 2 {
		t.Error(r.Flows(), r.Epoch())
	}
}

// Another address, at the same port: nobody is logged in any more, and an epoch begins.
func TestRequestOfAnotherAddress(t *testing.T) {
	r := home(t, "allow: any -> any;")
	r.lets(ha.at, tcp(t, ha, hb, 1, 2))
	h := ha
	h.ip = service + 7
	r.passes()
	r.says(r.lease(h, request(h)), append(r.flushes(), r.answers(h, api.LeasePort, granted(h)), r.free(h.at))...)
	r.wrote(r.leased(h), r.epoch())
	r.binds(bound(h, "", 1100), bound(hb, "bob", 1100), bound(hc, "", 1100))
	if len(r.Flows()) != 0 {
		t.Error(r.Flows())
	}
	// where nobody was logged in none does
	h = hc
	h.ip = service + 1
	r.leases(h)
	r.leases(hc)
}

// Another port: likewise.
func TestRequestAtAnotherPort(t *testing.T) {
	r := home(t, "allow: any -> any;")
	h := ha
	h.at = at(3, 2)
	r.passes()
	r.says(r.lease(h, request(h)), append(r.flushes(), r.answers(h, api.LeasePort, granted(h)), r.free(h.at))...)
	r.wrote(r.leased(h), r.epoch())
	r.binds(bound(h, "", 1100), bound(hb, "bob", 1100), bound(hc, "", 1100))
	// at a port where somebody is: he is there no more, and nobody is logged off in a record
	h.at = hb.at
	r.passes()
	r.says(r.lease(h, request(h)), append(r.flushes(), r.answers(h, api.LeasePort, granted(h)), r.free(h.at))...)
	r.wrote(r.leased(h), r.epoch())
	r.binds(bound(h, "", 1100), bound(hc, "", 1100))
}

// Another machine's address, whose lease is over, though no Tick has come: its binding goes.
func TestRequestOfWhatIsOver(t *testing.T) {
	r := home(t, "allow: any -> any;")
	r.now = 1100
	h := hc
	h.ip = hb.ip
	r.passes()
	r.says(r.lease(h, request(h)), append(r.flushes(), r.answers(h, api.LeasePort, granted(h)), r.free(h.at))...)
	r.wrote(r.leased(h), r.epoch())
	r.binds(bound(ha, "ann", 1100), bound(h, "", 2100))
}

// All three at once: a machine at another one's port, with a third one's address.
func TestRequestOfAll(t *testing.T) {
	r := home(t, "allow: any -> any;")
	r.logsIn(hc, "eve")
	r.now = 1100
	h := hc
	h.ip, h.at = ha.ip, hb.at
	r.passes()
	r.says(r.lease(h, request(h)), append(r.flushes(), r.answers(h, api.LeasePort, granted(h)), r.free(h.at))...)
	r.wrote(r.leased(h), r.epoch())
	r.binds(bound(h, "", 2100))
}

// A lease that can't be written down is none: the pool frees it.
func TestRequestWithoutRoom(t *testing.T) {
	r := net(t, 300)
	for r.Room() > 8 {
		r.fillOne()
	}
	r.passes()
	r.says(r.lease(ha, request(ha)), r.answers(ha, api.LeasePort, refused(ha, 8, api.ErrFull)), r.free(ha.at))
	r.wrote()
	r.binds()
	r.says(r.lease(hb, discover(hb)), r.answers(hb, api.LeasePort, offered(hb, ha.ip)), r.free(hb.at))
	r.is(r.Compact(r.now), api.OK)
	h := hb
	h.ip = ha.ip
	r.leases(h)
	for r.Room() > 8 {
		r.fillOne()
	}
	// one that it had ahead is freed, too; its binding stays till its time is over
	r.passes()
	r.says(r.lease(h, request(h)), r.answers(h, api.LeasePort, refused(h, 8, api.ErrFull)), r.free(h.at))
	r.wrote()
	r.binds(bound(h, "", 1100))
	r.says(r.lease(ha, discover(ha)), r.answers(ha, api.LeasePort, offered(ha, ha.ip)), r.free(ha.at))
	if l := r.State().Leases(); len(l) != 1 || l[0].Mac != hb.mac {
		t.Error(l)
	}
}

// fillOne takes a block: a link comes in place of another one, and an epoch begins.
func (r *rig) fillOne() {
	r.Helper()
	for i := range 3 {
		from, to := at(1, 2+i), at(1, 2+(i+1)%3)
		epoch := r.Epoch()
		r.see(from, to)
		if r.Epoch() != epoch {
			r.seq += 3
			return
		}
	}
}

// The reserve is left behind a Lease, just so.
func TestReserveOfLeases(t *testing.T) {
	r := net(t, 300)
	for r.Room() > 9 {
		r.fillOne()
	}
	r.leases(ha)
	if r.Room() != 8 {
		t.Error(r.Room())
	}
}

// An Until that may be in no record.
func TestRequestAtTheEndOfTime(t *testing.T) {
	c := config
	c.Lease = 1 << 20
	r := made(t, 300, c)
	r.is(r.Host("ha", ha.mac, r.now), api.OK)
	r.wires()
	r.now = api.MaxTime - 1<<20
	r.passes()
	r.says(r.lease(ha, request(ha)), r.answers(ha, api.LeasePort, refused(ha, 8, api.ErrArg)), r.free(ha.at))
	r.wrote()
	r.binds()
	r = made(t, 300, c)
	r.is(r.Host("ha", ha.mac, r.now), api.OK)
	r.wires()
	r.now = api.MaxTime - 1<<20 - 1
	r.passes()
	want := granted(ha)
	want.Ticks = 1 << 20
	r.says(r.lease(ha, request(ha)), r.answers(ha, api.LeasePort, want), r.free(ha.at))
	r.wrote(audit.Rec{Kind: audit.Lease, Mac: ha.mac, Ip: ha.ip, Until: api.MaxTime - 1})
}

func TestRelease(t *testing.T) {
	r := home(t, "allow: any -> any;")
	r.lets(ha.at, tcp(t, ha, hb, 1, 2))
	r.passes()
	r.says(r.lease(ha, release(ha)), append(r.flushes(), r.free(ha.at))...)
	r.wrote(r.unlet(ha), logoff("ann", api.ErrDown), r.epoch())
	r.binds(bound(hb, "bob", 1100), bound(hc, "", 1100))
	if len(r.Flows()) != 0 {
		t.Error(r.Flows())
	}
	r.freed(ha.at, r.asks(ha, everybody, api.LeasePort, release(ha))) // it is there no more
	// nobody is logged in: no epoch begins
	r.passes()
	r.says(r.lease(hc, release(hc)), r.free(hc.at))
	r.wrote(r.unlet(hc))
	r.binds(bound(hb, "bob", 1100))
	if l := r.State().Leases(); len(l) != 1 || l[0].Mac != hb.mac {
		t.Error(l)
	}
	h := hc
	h.ip = ha.ip
	r.leases(h) // the pool has it again
}

func TestReleaseOfOthers(t *testing.T) {
	r := home(t, "allow: any -> any;")
	h := ha
	h.ip = hb.ip
	r.freed(ha.at, r.asks(h, everybody, api.LeasePort, release(h)))
	h.ip = service + 7
	r.freed(ha.at, r.asks(h, everybody, api.LeasePort, release(h)))
	r.freed(hb.at, r.asks(ha, everybody, api.LeasePort, release(ha)))
	r.freed(at(1, 2), r.asks(ha, everybody, api.LeasePort, release(ha)))
	// the address that it comes from is not asked
	h = ha
	h.ip = 0
	r.passes()
	r.says(r.misses(ha.at, r.asks(h, everybody, api.LeasePort, release(ha))), append(r.flushes(), r.free(ha.at))...)
	r.wrote(r.unlet(ha), logoff("ann", api.ErrDown), r.epoch())
}

// Of a lease that the state does not have an Unlet is refused: the machine is gone all the same.
func TestReleaseWithoutLease(t *testing.T) {
	r := home(t, "")
	r.now = 1099
	r.refresh(1099)
	h := hc
	h.ip = service + 4
	r.leases(h)
	for r.Room() > 8 {
		r.fillOne()
	}
	r.fillAll()
	r.passes()
	r.says(r.lease(hc, release(h)), r.free(h.at))
	r.wrote()
	r.binds(bound(ha, "ann", 1100), bound(hb, "bob", 1100))
	if r.Dead() || len(r.State().Leases()) != 3 {
		t.Error(r.Dead(), r.State().Leases())
	}
}

func (r *rig) fillAll() {
	for r.Room() > 0 {
		r.fillOne()
	}
}

// Another machine with the same address, at the same port: who was logged in there is so no more.
func TestRequestOfAnotherMachine(t *testing.T) {
	r := home(t, "allow: any -> any;")
	r.now = 1100
	h := hc
	h.ip, h.at = ha.ip, ha.at
	r.passes()
	r.says(r.lease(h, request(h)), append(r.flushes(), r.answers(h, api.LeasePort, granted(h)), r.free(h.at))...)
	r.wrote(r.leased(h), r.epoch())
	r.binds(bound(hb, "bob", 1100), bound(h, "", 2100))
}
