package world_test

import (
	"slices"
	"testing"

	"ostiary/api"
	"ostiary/ctrl"
	"ostiary/flow"
	"ostiary/frame"
	"ostiary/hub"
	"ostiary/talk"
	"ostiary/world"
)

// The services' addresses.
const (
	service    = api.Ip(0x0A000000)
	serviceMac = api.Mac(0xC0)
	everybody  = api.Ip(1<<32 - 1)
)

// setup is that of most worlds here: a switch asks for nothing for 20 ticks ahead of closing.
func setup() world.Setup {
	return world.Setup{
		Ctrl: ctrl.Config{
			Service: service, Mac: serviceMac, Hosts: 16, Lease: 5000, Lock: 20,
			Retry: 3, Ping: 4, Age: 20, Idle: 0, Hard: 0, Flows: 64,
		},
		Blocks: 512, Entries: 64, Miss: 8, Quiet: 20,
	}
}

// net is a world with machines that know what they were told.
type net struct {
	*testing.T
	*world.World
	hub  *hub.Hub[world.Delivery] // whose one tap is told deliveries
	seen int                      // how many were looked at
	ips  map[int]api.Ip           // that were granted to machines
}

func made(t *testing.T, s world.Setup) *net {
	t.Helper()
	w, e := world.New(s)
	if w == nil || e != api.OK {
		t.Fatalf("New(%+v): %v, %d", s, w, e)
	}
	h := hub.New[world.Delivery](64)
	h.Tap()
	return &net{T: t, World: w, hub: h, ips: map[int]api.Ip{}}
}

func at(sw, port int) api.Place { return api.Place{Sw: sw, Port: port} }

func macOf(host int) api.Mac { return api.Mac(0x100 + host) }

func nameOf(host int) string { return "h" + string([]byte{'a' + byte(host)}) }

// keyOf is the secret of a user.
func keyOf(user string) talk.Key {
	k := talk.Key{A: 77, B: 99}
	for i := range len(user) {
		k.A = k.A*131 + uint64(user[i])
	}
	return k
}

// ok fails at once if something that was called was refused.
func (n *net) ok(e api.Errno) {
	n.Helper()
	if e != api.OK {
		n.Fatalf("refused: %d", e)
	}
}

// all that is on its way comes: on each way in turn, with what sets out on it meanwhile.
func (n *net) all() {
	for way := world.Air; way <= world.Down; way++ {
		for n.Len(way) > 0 {
			n.Move(way, 0)
		}
	}
}

// quiet: all comes, and what comes of it, till nothing is on its way.
func (n *net) quiet() {
	n.Helper()
	for range 1000 {
		if n.Len(world.Air)+n.Len(world.Up)+n.Len(world.Down) == 0 {
			return
		}
		n.all()
	}
	n.Fatal("it never ends")
}

func (n *net) round() {
	n.all()
	n.Tick()
}

func (n *net) rounds(k int) {
	for range k {
		n.round()
	}
}

// news are the deliveries that were not looked at yet.
func (n *net) news() []world.Delivery {
	var l []world.Delivery
	for n.Tell(n.hub, n.seen) > 0 {
		for d, ok := n.hub.Take(0); ok; d, ok = n.hub.Take(0) {
			l = append(l, d)
			n.seen++
		}
	}
	return l
}

// udp is a frame of a machine to an address.
func (n *net) udp(host int, to api.Mac, ip api.Ip, sport, dport int, body []byte) []byte {
	return bytesOf(n.T, frame.Frame{
		Src: macOf(host), Dst: to, Type: api.TypeIp,
		Head: frame.Head{Src: n.ips[host], Dst: ip, Proto: api.Udp, Ttl: 9},
		Ends: frame.Ends{Sport: sport, Dport: dport}, Body: body,
	})
}

// tcp is a frame from a machine to another one.
func (n *net) tcp(from, to, sport, dport int, body string) []byte {
	return bytesOf(n.T, frame.Frame{
		Src: macOf(from), Dst: macOf(to), Type: api.TypeIp,
		Head: frame.Head{Src: n.ips[from], Dst: n.ips[to], Proto: api.Tcp, Ttl: 9},
		Ends: frame.Ends{Sport: sport, Dport: dport}, Body: []byte(body),
	})
}

func bytesOf(t *testing.T, f frame.Frame) []byte {
	t.Helper()
	b, e := frame.Encode(f)
	if e != api.OK {
		t.Fatalf("%+v: %d", f, e)
	}
	return b
}

func flowOf(t *testing.T, b []byte) api.Key {
	t.Helper()
	f, e := frame.Parse(b)
	k, ok := flow.Of(f)
	if e != api.OK || !ok {
		t.Fatal("no flow's", b)
	}
	return k
}

// asks says something to a service, and tells what it answers.
func (n *net) asks(host int, ip api.Ip, port int, m talk.Msg) talk.Msg {
	n.Helper()
	b, e := talk.Encode(m)
	n.ok(e)
	n.news()
	n.Send(host, n.udp(host, serviceMac, ip, 5000, port, b))
	for range 4 {
		n.round()
		for _, d := range n.news() {
			if m, ok := answerOf(d, host); ok {
				return m
			}
		}
	}
	return talk.Msg{}
}

// answerOf is what a service says in a frame that came to a machine.
func answerOf(d world.Delivery, host int) (talk.Msg, bool) {
	f, e := frame.Parse(d.Bytes)
	if e != api.OK || d.Host != host || !d.Service || f.Head.Src != service {
		return talk.Msg{}, false
	}
	m, e := talk.Parse(f.Body)
	return m, e == api.OK
}

// leases gets a machine an address.
func (n *net) leases(host int) talk.Msg {
	n.Helper()
	o := n.asks(host, everybody, api.LeasePort, talk.Msg{Kind: talk.Discover, Xid: 7, Mac: macOf(host)})
	if o.Kind != talk.Offer {
		return o
	}
	g := n.asks(host, everybody, api.LeasePort, talk.Msg{Kind: talk.Request, Xid: 8, Mac: macOf(host), Ip: o.Ip})
	if g.Kind == talk.Granted {
		n.ips[host] = g.Ip
	}
	return g
}

func (n *net) logsIn(host int, user string) talk.Msg {
	n.Helper()
	c := n.asks(host, service, api.AuthPort, talk.Msg{Kind: talk.Hello, User: user})
	if c.Kind != talk.Challenge {
		return c
	}
	return n.asks(host, service, api.AuthPort, n.proof(talk.Response, host, user, c.Nonce))
}

func (n *net) logsOut(host int, user string) talk.Msg {
	n.Helper()
	return n.asks(host, service, api.AuthPort, n.proof(talk.Logout, host, user, 5))
}

func (n *net) proof(kind, host int, user string, nonce uint64) talk.Msg {
	return talk.Msg{Kind: kind, User: user, Nonce: nonce, Tag: talk.Proof(keyOf(user), kind, user, nonce, macOf(host), n.ips[host])}
}

// enters: a machine is known, gets an address, and a user logs in there.
func (n *net) enters(host int, user string) {
	n.Helper()
	if g := n.leases(host); g.Kind != talk.Granted {
		n.Fatalf("no lease: %+v", g)
	}
	if a := n.logsIn(host, user); a.Kind != talk.Accept {
		n.Fatalf("not logged in: %+v", a)
	}
}

// comes sends a frame, and tells whether it was delivered at another machine within so many rounds.
func (n *net) comes(from, to int, b []byte, rounds int) bool {
	n.Helper()
	n.news()
	if !n.Send(from, b) {
		n.Fatal("not sent")
	}
	for range rounds {
		n.round()
		if slices.ContainsFunc(n.news(), func(d world.Delivery) bool { return d.Host == to && !d.Service && string(d.Bytes) == string(b) }) {
			return true
		}
	}
	return false
}

// wires joins switches in a row: port 8 of each to port 7 of the next one; machine number i is at port 1 of switch i + 1, and there are so many of both.
func (n *net) wires(k int) {
	n.Helper()
	for sw := 1; sw <= k; sw++ {
		if sw < k {
			n.ok(n.Join(at(sw, 8), at(sw+1, 7)))
		}
		n.ok(n.Attach(sw-1, at(sw, 1)))
	}
	n.rounds(10)
	if l := n.Ctrl().Links(); len(l) != k-1 {
		n.Fatal("links", l)
	}
}

// pair is a row of k switches; ann is at its one end, bob at the other one, and a policy is there.
func pair(t *testing.T, s world.Setup, k int, policy string) (*net, int) {
	t.Helper()
	n := made(t, s)
	n.people(policy, k)
	n.wires(k)
	n.enters(0, "ann")
	n.enters(k-1, "bob")
	return n, k - 1
}

// people: ann, bob and eve are known, and so many machines.
func (n *net) people(policy string, hosts int) {
	n.Helper()
	for _, name := range []string{"ann", "bob", "eve"} {
		n.ok(n.User(name, keyOf(name)))
	}
	for host := range hosts {
		n.ok(n.Host(nameOf(host), macOf(host)))
	}
	_, e := n.Policy(policy)
	n.ok(e)
}
