package ctrl_test

import (
	"fmt"
	"slices"
	"testing"

	"ostiary/api"
	"ostiary/audit"
	"ostiary/block"
	"ostiary/ctl"
	"ostiary/ctrl"
	"ostiary/flow"
	"ostiary/frame"
	"ostiary/journal"
	"ostiary/talk"
)

// The services' addresses, and that of whoever has none.
const (
	service    = api.Ip(0x0A000000)
	serviceMac = api.Mac(0xC0)
	everybody  = api.Ip(0xFFFFFFFF)
)

// config is that of most controllers here: addresses 1 to 8 behind the service's; no two of its numbers are the same.
var config = ctrl.Config{
	Service: service, Mac: serviceMac, Hosts: 8, Lease: 1000, Lock: 50,
	Retry: 5, Ping: 7, Age: 40, Idle: 60, Hard: 600, Flows: 30,
}

// rig is a controller, with what it should have said and written down so far.
type rig struct {
	*testing.T
	*ctrl.Ctrl
	d    *block.Device
	now  int64
	seq  uint32 // how many messages had one
	recs int    // how many records were looked at
	life [9]uint32
}

func made(t *testing.T, blocks int, c ctrl.Config) *rig {
	t.Helper()
	r := &rig{T: t, d: block.New(blocks), now: 100}
	r.open(c)
	return r
}

// open is anew: what was said and who joined counts no more.
func (r *rig) open(c ctrl.Config) {
	r.Helper()
	x, e := ctrl.Open(r.d, c, r.now)
	if x == nil || e != api.OK {
		r.Fatalf("Open(%+v, %d): %v, %d", c, r.now, x, e)
	}
	r.Ctrl, r.seq, r.life = x, 0, [9]uint32{}
}

// again: the power goes, and comes back.
func (r *rig) again() {
	r.Helper()
	r.d.Off()
	r.d.On()
	r.open(config)
}

// records are all that the journal has.
func (r *rig) records() []audit.Rec { return recordsOf(r.T, r.d) }

func recordsOf(t *testing.T, d *block.Device) []audit.Rec {
	t.Helper()
	_, l, e := journal.Open(d)
	if e != api.OK {
		t.Fatal("no journal", e)
	}
	var out []audit.Rec
	for _, b := range l {
		x, e := audit.Parse(b)
		if e != api.OK {
			t.Fatal("no record", b)
		}
		out = append(out, x)
	}
	return out
}

// wrote fails unless just these records, of time now, are there that were not looked at yet, and lasting.
func (r *rig) wrote(want ...audit.Rec) {
	r.Helper()
	all := r.records()
	for i := range want {
		want[i].Time = r.now
	}
	if got := all[min(r.recs, len(all)):]; !slices.EqualFunc(got, want, audit.Same) {
		r.Errorf("wrote %+v, not %+v", got, want)
	}
	if r.d.Pending() != 0 {
		r.Error("something is pending")
	}
	r.recs = len(all)
}

// passes over records.
func (r *rig) passes() { r.recs = len(r.records()) }

// says fails unless just these messages were said.
func (r *rig) says(got []ctl.Msg, want ...ctl.Msg) {
	r.Helper()
	if !slices.EqualFunc(got, want, ctl.Same) {
		r.Errorf("said%s\nnot%s", brief(got), brief(want))
	}
	for _, m := range got {
		if !ctl.May(m) || ctl.Up(m.Kind) {
			r.Errorf("it may not be said: %+v", m)
		}
	}
}

// refuses fails unless nothing was said, by that error.
func (r *rig) refuses(want api.Errno) func([]ctl.Msg, api.Errno) {
	return func(l []ctl.Msg, e api.Errno) {
		r.Helper()
		if len(l) != 0 || e != want {
			r.Errorf("%+v, %d; not %d", l, e, want)
		}
	}
}

func (r *rig) is(got, want api.Errno) {
	r.Helper()
	if got != want {
		r.Errorf("%d, not %d", got, want)
	}
}

// said is the next message with a number.
func (r *rig) said(kind, sw int) ctl.Msg {
	r.seq++
	return ctl.Msg{Kind: kind, Sw: sw, Life: r.life[sw], Epoch: r.Epoch(), Seq: r.seq}
}

// flushes are those of all that have joined.
func (r *rig) flushes() []ctl.Msg {
	var l []ctl.Msg
	for sw, life := range r.life {
		if life != 0 {
			l = append(l, r.said(ctl.Flush, sw))
		}
	}
	return l
}

func (r *rig) epoch() audit.Rec { return audit.Rec{Kind: audit.Epoch, Epoch: r.Epoch()} }

func logoff(name string, why api.Errno) audit.Rec {
	return audit.Rec{Kind: audit.Logoff, Name: name, Why: int(why)}
}

func at(sw, port int) api.Place { return api.Place{Sw: sw, Port: port} }

// up is a message of a switch, in its life.
func (r *rig) up(kind, sw int) ctl.Msg { return ctl.Msg{Kind: kind, Sw: sw, Life: r.life[sw]} }

// joins with a life other than 0, and wants nothing but a Welcome.
func (r *rig) joins(sw int, life uint32, ports int) {
	r.Helper()
	r.life[sw] = life
	l := r.Handle(ctl.Msg{Kind: ctl.Join, Sw: sw, Life: life, Ports: ports}, r.now)
	r.says(l, r.said(ctl.Welcome, sw))
}

// links two ports, of which nobody is at either.
func (r *rig) links(from, to api.Place) {
	r.Helper()
	r.says(r.see(from, to))
}

func (r *rig) see(from, to api.Place) []ctl.Msg {
	m := r.up(ctl.Seen, to.Sw)
	m.Port, m.Peer = to.Port, from
	return r.Handle(m, r.now)
}

func (r *rig) changes(sw, ports int) []ctl.Msg {
	m := r.up(ctl.Changed, sw)
	m.Ports = ports
	return r.Handle(m, r.now)
}

// buf is the number of all frames that are asked about here.
const buf = 77

// misses is a frame that came in at a port.
func (r *rig) misses(p api.Place, b []byte) []ctl.Msg {
	m := r.up(ctl.Miss, p.Sw)
	m.Port, m.Buf, m.Frame = p.Port, buf, b
	return r.Handle(m, r.now)
}

func (r *rig) free(p api.Place) ctl.Msg {
	return ctl.Msg{Kind: ctl.Free, Sw: p.Sw, Life: r.life[p.Sw], Buf: buf}
}

// sends is a frame that is sent back.
func (r *rig) sends(p api.Place, b []byte) ctl.Msg {
	return ctl.Msg{Kind: ctl.Send, Sw: p.Sw, Life: r.life[p.Sw], Epoch: r.Epoch(), Port: p.Port, Frame: b}
}

func bytesOf(t *testing.T, f frame.Frame) []byte {
	t.Helper()
	b, e := frame.Encode(f)
	if e != api.OK {
		t.Fatalf("%+v: %d", f, e)
	}
	return b
}

// host is a machine: where it is, and its addresses.
type host struct {
	at   api.Place
	mac  api.Mac
	ip   api.Ip
	name string
}

// asks is a frame to a service.
func (r *rig) asks(h host, ip api.Ip, port int, m talk.Msg) []byte {
	r.Helper()
	b, e := talk.Encode(m)
	if e != api.OK {
		r.Fatalf("%+v: %d", m, e)
	}
	return bytesOf(r.T, udp(h.mac, serviceMac, h.ip, ip, 5000, port, b))
}

func udp(src, dst api.Mac, from, to api.Ip, sport, dport int, body []byte) frame.Frame {
	f := frame.Frame{Src: src, Dst: dst, Type: api.TypeIp, Body: body}
	f.Head = frame.Head{Src: from, Dst: to, Proto: api.Udp, Ttl: 3, Id: 9}
	f.Ends = frame.Ends{Sport: sport, Dport: dport}
	return f
}

// answers is what a service says to a machine.
func (r *rig) answers(h host, port int, m talk.Msg) ctl.Msg {
	r.Helper()
	b, e := talk.Encode(m)
	if e != api.OK {
		r.Fatalf("%+v: %d", m, e)
	}
	f := udp(serviceMac, h.mac, service, h.ip, port, 5000, b)
	f.Head.Ttl, f.Head.Id = 64, 0
	return r.sends(h.at, bytesOf(r.T, f))
}

func discover(h host) talk.Msg { return talk.Msg{Kind: talk.Discover, Xid: 7, Mac: h.mac} }

func request(h host) talk.Msg { return talk.Msg{Kind: talk.Request, Xid: 8, Mac: h.mac, Ip: h.ip} }

func release(h host) talk.Msg { return talk.Msg{Kind: talk.Release, Mac: h.mac, Ip: h.ip} }

func granted(h host) talk.Msg {
	return talk.Msg{Kind: talk.Granted, Xid: 8, Mac: h.mac, Ip: h.ip, Ticks: config.Lease}
}

func refused(h host, xid uint32, why api.Errno) talk.Msg {
	return talk.Msg{Kind: talk.Refused, Xid: xid, Mac: h.mac, Why: int(why)}
}

// lease is what is said of leases.
func (r *rig) lease(h host, m talk.Msg) []ctl.Msg {
	r.Helper()
	return r.misses(h.at, r.asks(h, everybody, api.LeasePort, m))
}

func (r *rig) leased(h host) audit.Rec {
	return audit.Rec{Kind: audit.Lease, Mac: h.mac, Ip: h.ip, Until: r.now + config.Lease}
}

// leases has its address from now on, and nothing befalls by that.
func (r *rig) leases(l ...host) {
	r.Helper()
	for _, h := range l {
		r.passes()
		r.says(r.lease(h, request(h)), r.answers(h, api.LeasePort, granted(h)), r.free(h.at))
		r.wrote(r.leased(h))
	}
}

// secret is that of a user.
func secret(user string) talk.Key {
	k := talk.Key{A: 5, B: 6}
	for i := range len(user) {
		k.A = k.A*31 + uint64(user[i])
	}
	return k
}

// auth is what is said of logins.
func (r *rig) auth(h host, m talk.Msg) []ctl.Msg {
	r.Helper()
	return r.misses(h.at, r.asks(h, service, api.AuthPort, m))
}

func proof(h host, kind int, user string, nonce uint64) talk.Msg {
	return talk.Msg{Kind: kind, User: user, Nonce: nonce, Tag: talk.Proof(secret(user), kind, user, nonce, h.mac, h.ip)}
}

// told is what a service said, in the message ahead of the last one.
func (r *rig) told(l []ctl.Msg) talk.Msg {
	r.Helper()
	if len(l) < 2 {
		r.Fatalf("nothing is told: %+v", l)
	}
	f, e := frame.Parse(l[len(l)-2].Frame)
	if e != api.OK {
		r.Fatalf("no frame: %+v", l)
	}
	m, e := talk.Parse(f.Body)
	if e != api.OK {
		r.Fatalf("no message: %+v", f)
	}
	return m
}

// challenged is the number that a user is told.
func (r *rig) challenged(h host, user string) uint64 {
	r.Helper()
	m := r.told(r.auth(h, talk.Msg{Kind: talk.Hello, User: user}))
	if m.Kind != talk.Challenge || m.User != user {
		r.Fatalf("no challenge: %+v", m)
	}
	return m.Nonce
}

func (r *rig) login(h host, user string) audit.Rec {
	return audit.Rec{Kind: audit.Login, Name: user, Mac: h.mac, Ip: h.ip, From: h.at}
}

// accepts: of a lease that was granted at that time.
func (r *rig) accepts(h host, user string, ticks int64) ctl.Msg {
	r.Helper()
	return r.answers(h, api.AuthPort, talk.Msg{Kind: talk.Accept, User: user, Ticks: ticks})
}

// logsIn just now, where an address was leased just now, and nothing befalls by that.
func (r *rig) logsIn(h host, user string) {
	r.Helper()
	nonce := r.challenged(h, user)
	r.passes()
	r.says(r.auth(h, proof(h, talk.Response, user, nonce)), r.accepts(h, user, config.Lease), r.free(h.at))
	r.wrote(r.login(h, user))
}

// The machines of most tests, each at another switch.
var (
	ha = host{at(1, 1), 0xA1, service + 1, "ha"}
	hb = host{at(2, 1), 0xA2, service + 2, "hb"}
	hc = host{at(3, 1), 0xA3, service + 3, "hc"}
)

// net is a controller with three switches in a row, port 8 of each to port 7 of the next one; three users and three machines are known.
func net(t *testing.T, blocks int) *rig {
	t.Helper()
	r := made(t, blocks, config)
	for _, name := range []string{"ann", "bob", "eve"} {
		r.is(r.User(name, secret(name), r.now), api.OK)
	}
	for _, h := range []host{ha, hb, hc} {
		r.is(r.Host(h.name, h.mac, r.now), api.OK)
	}
	r.wires()
	r.passes()
	return r
}

// wires: three switches in a row join.
func (r *rig) wires() {
	r.Helper()
	for sw := 1; sw <= 3; sw++ {
		r.joins(sw, uint32(10+sw), 255)
	}
	r.links(at(1, 8), at(2, 7))
	r.links(at(2, 8), at(3, 7))
}

// home is such a net where ann is at ha, bob at hb, and nobody at hc; with a policy.
func home(t *testing.T, policy string) *rig {
	t.Helper()
	r := net(t, block.Most)
	r.rules(policy)
	r.leases(ha, hb, hc)
	r.logsIn(ha, "ann")
	r.logsIn(hb, "bob")
	return r
}

// rules: another policy.
func (r *rig) rules(text string) {
	r.Helper()
	r.passes()
	l, place, e := r.Policy(text, r.now)
	if place != 0 || e != api.OK {
		r.Fatalf("%q: %d, %d", text, place, e)
	}
	r.says(l, r.flushes()...)
	r.wrote(audit.Rec{Kind: audit.Policy, Text: text}, r.epoch())
}

// tcp is a frame from a machine to another one.
func tcp(t *testing.T, from, to host, sport, dport int) []byte {
	t.Helper()
	f := frame.Frame{Src: from.mac, Dst: to.mac, Type: api.TypeIp, Body: []byte("tcp")}
	f.Head = frame.Head{Src: from.ip, Dst: to.ip, Proto: api.Tcp, Ttl: 3}
	f.Ends = frame.Ends{Sport: sport, Dport: dport, Seq: 5, Win: 6}
	return bytesOf(t, f)
}

func keyOf(t *testing.T, b []byte) api.Key {
	t.Helper()
	f, e := frame.Parse(b)
	k, ok := flow.Of(f)
	if e != api.OK || !ok {
		t.Fatal("no flow's", b)
	}
	return k
}

// add is the message of a hop.
func (r *rig) add(h api.Hop, k api.Key, seq uint32, enter, last bool) ctl.Msg {
	return ctl.Msg{
		Kind: ctl.Add, Sw: h.Sw, Life: r.life[h.Sw], Epoch: r.Epoch(), Seq: seq,
		Port: h.In, Out: h.Out, Enter: enter, Last: last, Idle: config.Idle, Hard: config.Hard, Key: k,
	}
}

// does tells something as done.
func (r *rig) does(m ctl.Msg) []ctl.Msg {
	return r.Handle(ctl.Msg{Kind: ctl.Done, Sw: m.Sw, Life: m.Life, Epoch: m.Epoch, Seq: m.Seq}, r.now)
}

// denies: a frame is freed, and why is written down.
func (r *rig) denies(p api.Place, b []byte, why api.Errno) {
	r.Helper()
	r.passes()
	flows := len(r.Flows())
	r.says(r.misses(p, b), r.free(p))
	r.wrote(audit.Rec{Kind: audit.Deny, Why: int(why), From: p, Key: keyOf(r.T, b)})
	if len(r.Flows()) != flows {
		r.Error("let in", r.Flows())
	}
}

// lets a flow in, at most one hop of which is asked for.
func (r *rig) lets(p api.Place, b []byte) {
	r.Helper()
	flows := len(r.Flows())
	l := r.misses(p, b)
	if len(r.Flows()) != flows+1 || len(l) != 1 || l[0].Kind != ctl.Add {
		r.Errorf("not let in: %+v", l)
	}
	r.passes()
}

func show(v any) string { return fmt.Sprint(v) }

// brief shows messages by what they have.
func brief(l []ctl.Msg) string {
	s := ""
	for _, m := range l {
		s += fmt.Sprintf("\n  kind %d, sw %d, life %d, epoch %d, seq %d", m.Kind, m.Sw, m.Life, m.Epoch, m.Seq)
		m.Kind, m.Sw, m.Life, m.Epoch, m.Seq = 0, 0, 0, 0, 0
		if !ctl.Same(m, ctl.Msg{}) {
			s += fmt.Sprintf(", and %v", m)
		}
	}
	return s
}
