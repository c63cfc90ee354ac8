package ctrl_test

import (
	"testing"

	"ostiary/api"
	"ostiary/ctl"
	"ostiary/frame"
	"ostiary/talk"
)

// P29.5.

// freed fails unless a frame is freed, and nothing else befalls.
func (r *rig) freed(p api.Place, b []byte) {
	r.Helper()
	r.passes()
	was := r.standing()
	r.says(r.misses(p, b), r.free(p))
	r.wrote()
	if is := r.standing(); is != was {
		r.Errorf("changed: %s\n%s", was, is)
	}
}

func TestNoFrames(t *testing.T) {
	r := home(t, "allow: any -> any;")
	good := tcp(t, ha, hb, 1, 2)
	for _, b := range [][]byte{{0}, []byte("what is it?"), good[:len(good)-1], append(append([]byte{}, good...), 0), make([]byte, 512)} {
		r.freed(ha.at, b)
	}
	bad := append([]byte{}, good...)
	bad[len(bad)-1]++
	r.freed(ha.at, bad)
	m := r.up(ctl.Miss, 1) // each by its own number
	for _, m.Buf = range []int{0, 1, 255} {
		m.Port, m.Frame = 1, []byte{1}
		r.says(r.Handle(m, r.now), ctl.Msg{Kind: ctl.Free, Sw: 1, Life: 11, Buf: m.Buf})
	}
}

// Whatever epoch the switch is in, it is heard.
func TestMissOfOtherEpochs(t *testing.T) {
	r := home(t, "allow: any -> any;")
	m := r.up(ctl.Miss, 1)
	for i, epoch := range []uint32{0, 1, 2, 3, 1 << 31} {
		m.Port, m.Epoch, m.Frame = 1, epoch, tcp(t, ha, hb, 1, i)
		if l := r.Handle(m, r.now); len(l) != 1 || l[0].Kind != ctl.Add || l[0].Epoch != 2 {
			t.Error(l)
		}
	}
}

// At a port that is no edge nothing is let in, nor answered.
func TestNoEdges(t *testing.T) {
	r := home(t, "allow: any -> any;")
	r.says(r.changes(3, 0b11000001))
	for _, p := range []api.Place{at(1, 8), at(2, 7), at(3, 2)} {
		h := ha
		h.at = p
		r.freed(p, tcp(t, ha, hb, 1, 2))
		r.freed(p, r.asks(h, everybody, api.LeasePort, request(h)))
		r.freed(p, r.asks(h, service, api.AuthPort, talk.Msg{Kind: talk.Hello, User: "ann"}))
		r.freed(p, arp(t, h, service))
	}
	r.says(r.lease(host{at(1, 4), ha.mac, 0, ""}, discover(ha)),
		r.answers(host{at(1, 4), ha.mac, 0, ""}, api.LeasePort, talk.Msg{Kind: talk.Offer, Xid: 7, Mac: ha.mac, Ip: ha.ip, Ticks: config.Lease}), r.free(at(1, 4)))
}

// arp is a machine's question of who has an address.
func arp(t *testing.T, h host, ip api.Ip) []byte {
	t.Helper()
	return bytesOf(t, arpFrame(h, ip))
}

func arpFrame(h host, ip api.Ip) frame.Frame {
	return frame.Frame{Dst: api.Anybody, Src: h.mac, Type: api.TypeArp, Arp: frame.Arp{Op: 1, Sha: h.mac, Tha: 0x1234, Spa: h.ip, Tpa: ip}}
}

// tells fails unless it is told that an address is a Mac's.
func (r *rig) tells(h host, b []byte, ip api.Ip, m api.Mac) {
	r.Helper()
	r.passes()
	f := frame.Frame{Dst: h.mac, Src: m, Type: api.TypeArp, Arp: frame.Arp{Op: 2, Sha: m, Tha: h.mac, Spa: ip, Tpa: h.ip}}
	r.says(r.misses(h.at, b), r.sends(h.at, bytesOf(r.T, f)), r.free(h.at))
	r.wrote()
}

func TestArp(t *testing.T) {
	r := home(t, "")
	r.tells(ha, arp(t, ha, service), service, serviceMac)
	r.tells(ha, arp(t, ha, hb.ip), hb.ip, hb.mac)
	r.tells(ha, arp(t, ha, hc.ip), hc.ip, hc.mac) // nobody is logged in there
	r.tells(ha, arp(t, ha, ha.ip), ha.ip, ha.mac)
	r.tells(hc, arp(t, hc, ha.ip), ha.ip, ha.mac) // nor here
	f := arpFrame(hb, ha.ip)
	f.Dst, f.Arp.Tha = serviceMac, 0
	r.tells(hb, bytesOf(t, f), ha.ip, ha.mac)
}

func TestArpOfNobody(t *testing.T) {
	r := home(t, "allow: any -> any;")
	for _, ip := range []api.Ip{service + 4, service - 1, 0, everybody} {
		r.freed(ha.at, arp(t, ha, ip))
	}
}

func TestArpOfOthers(t *testing.T) {
	r := home(t, "allow: any -> any;")
	changes := []func(f *frame.Frame){
		func(f *frame.Frame) { f.Arp.Op = 2 },
		func(f *frame.Frame) { f.Arp.Sha = hb.mac },
		func(f *frame.Frame) { f.Src = hb.mac },
		func(f *frame.Frame) { f.Src, f.Arp.Sha = hb.mac, hb.mac },
		func(f *frame.Frame) { f.Arp.Spa = hb.ip },
		func(f *frame.Frame) { f.Arp.Spa = 0 },
		func(f *frame.Frame) { f.Src, f.Arp.Sha, f.Arp.Spa = hb.mac, hb.mac, hb.ip },
	}
	for _, change := range changes {
		f := arpFrame(ha, service)
		change(&f)
		r.freed(ha.at, bytesOf(t, f))
	}
	r.freed(at(1, 2), arp(t, ha, service)) // nobody is there
	r.freed(hb.at, arp(t, ha, service))
}

func TestOtherTypes(t *testing.T) {
	r := home(t, "allow: any -> any;")
	for _, kind := range []int{1536, api.TypeIp - 1, api.TypeIp + 1, 0x86DD, 65535} {
		r.freed(ha.at, bytesOf(t, frame.Frame{Dst: hb.mac, Src: ha.mac, Type: kind, Body: []byte("what is it?")}))
	}
}

// What is for a service is no flow; but only just that.
func TestWhatIsForServices(t *testing.T) {
	r := home(t, "allow: any -> any;")
	body, _ := talk.Encode(talk.Msg{Kind: talk.Hello, User: "ann"})
	for _, c := range []struct {
		ip          api.Ip
		proto, port int
		served      bool
	}{
		{service, api.Udp, 67, true},
		{everybody, api.Udp, 67, true},
		{service, api.Udp, 1812, true},
		{everybody, api.Udp, 1812, false},
		{service, api.Tcp, 67, false},
		{service, api.Tcp, 1812, false},
		{everybody, api.Tcp, 67, false},
		{service, api.Udp, 68, false},
		{service, api.Udp, 80, false},
		{service, 1, 0, false},
		{service + 100, api.Udp, 67, false},
		{hb.ip, api.Udp, 67, false},
		{hb.ip, api.Udp, 1812, false},
		{service - 1, api.Udp, 1812, false},
	} {
		f := frame.Frame{Dst: serviceMac, Src: ha.mac, Type: api.TypeIp, Body: body}
		f.Head = frame.Head{Src: ha.ip, Dst: c.ip, Proto: c.proto}
		if c.proto != 1 {
			f.Ends = frame.Ends{Sport: c.port, Dport: c.port}
		}
		if !c.served {
			r.denies(ha.at, bytesOf(t, f), api.ErrNone)
			continue
		}
		r.passes()
		l := r.misses(ha.at, bytesOf(t, f))
		if l[len(l)-1].Kind != ctl.Free {
			t.Error(c, l)
		}
		r.wrote()
	}
	// whom the frame is for is not asked
	f := udp(ha.mac, 0x999, ha.ip, service, 5000, api.AuthPort, body)
	nonce := uint64(2)<<32 | 4
	r.says(r.misses(ha.at, bytesOf(t, f)), r.answers(ha, api.AuthPort, talk.Msg{Kind: talk.Challenge, User: "ann", Nonce: nonce}), r.free(ha.at))
}

// A service answers to just the addresses and ports that a frame has.
func TestAnswered(t *testing.T) {
	r := net(t, 200)
	body, _ := talk.Encode(discover(ha))
	for _, sport := range []int{0, 1, 68, 65535} {
		for _, ip := range []api.Ip{0, ha.ip, 0x01020304, everybody} {
			for _, to := range []api.Ip{service, everybody} {
				offer, _ := talk.Encode(talk.Msg{Kind: talk.Offer, Xid: 7, Mac: ha.mac, Ip: ha.ip, Ticks: config.Lease})
				want := udp(serviceMac, ha.mac, service, ip, api.LeasePort, sport, offer)
				want.Head.Ttl, want.Head.Id = 64, 0
				got := r.misses(at(2, 5), bytesOf(t, udp(ha.mac, 0x77, ip, to, sport, api.LeasePort, body)))
				r.says(got, r.sends(at(2, 5), bytesOf(t, want)), r.free(at(2, 5)))
			}
		}
	}
}
