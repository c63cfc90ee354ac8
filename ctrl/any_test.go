package ctrl_test

import (
	"math"
	"math/rand"
	"strings"
	"testing"

	"ostiary/api"
	"ostiary/audit"
	"ostiary/block"
	"ostiary/ctl"
	"ostiary/ctrl"
	"ostiary/eval"
	"ostiary/frame"
	"ostiary/talk"
)

// P1: no call panics, and each one ends, at all arguments.

type dice struct{ *rand.Rand }

func (d dice) number() int64 {
	l := []int64{math.MinInt64, -1, 0, 1, 2, 7, 8, 9, 255, 256, 65535, 65536, 1 << 20, 1 << 32, api.MaxTime - 1, api.MaxTime, math.MaxInt64}
	if d.Intn(2) == 0 {
		return d.Int63n(9)
	}
	return l[d.Intn(len(l))]
}

func (d dice) num() int { return int(d.number()) }

func (d dice) text() string {
	l := []string{"", "ann", "bob", "ha", "hb", "zoe", "any", "Ann", "abcdefghi", "\xff", strings.Repeat("a", 1000), "allow: any -> any;", "outbound: ann -> bob;", "group g = ann;", "via 2: any -> any;", "group g = g;", "deny"}
	return l[d.Intn(len(l))]
}

func (d dice) bytes() []byte {
	b := make([]byte, d.Intn(80))
	d.Read(b)
	return b
}

func (d dice) mac() api.Mac {
	return []api.Mac{0, ha.mac, hb.mac, api.Anybody, 1 << 48, math.MaxUint64}[d.Intn(6)]
}

func (d dice) ip() api.Ip {
	return []api.Ip{0, service, service + 1, service + 2, everybody}[d.Intn(5)]
}

// message is what is said to a service, or nothing like it.
func (d dice) message() []byte {
	m := talk.Msg{Kind: d.Intn(14), Xid: d.Uint32(), Mac: d.mac(), Ip: d.ip(), Ticks: d.number(), User: d.text(), Nonce: d.Uint64(), Tag: d.Uint64(), Why: d.num()}
	switch m.Kind {
	case talk.Discover:
		m = talk.Msg{Kind: m.Kind, Mac: ha.mac}
	case talk.Request:
		m = talk.Msg{Kind: m.Kind, Mac: ha.mac, Ip: d.ip()}
	case talk.Release:
		m = talk.Msg{Kind: m.Kind, Mac: ha.mac, Ip: d.ip()}
	case talk.Hello:
		m = talk.Msg{Kind: m.Kind, User: "ann"}
	case talk.Response, talk.Logout:
		m = proof(ha, m.Kind, "ann", 1<<32+uint64(d.Intn(5)))
	}
	b, _ := talk.Encode(m)
	if len(b) == 0 {
		return d.bytes()
	}
	return b
}

func (d dice) frame() []byte {
	f := udp(d.mac(), d.mac(), d.ip(), d.ip(), d.Intn(3), []int{67, 1812, 80}[d.Intn(3)], d.message())
	switch d.Intn(4) {
	case 0:
		f = frame.Frame{Src: ha.mac, Dst: api.Anybody, Type: api.TypeArp, Arp: frame.Arp{Op: d.Intn(4), Sha: d.mac(), Spa: d.ip(), Tpa: d.ip()}}
	case 1:
		f.Src, f.Head.Src = ha.mac, ha.ip
	}
	b, _ := frame.Encode(f)
	if len(b) == 0 {
		return d.bytes()
	}
	return b
}

func (d dice) msg() ctl.Msg {
	m := ctl.Msg{Kind: 1 + d.Intn(6), Sw: 1 + d.Intn(3), Life: uint32(11 + d.Intn(3))}
	switch m.Kind {
	case ctl.Join, ctl.Changed:
		m.Ports = 255 - d.Intn(3)
	case ctl.Miss:
		m.Port, m.Buf, m.Frame = 1+d.Intn(2), d.Intn(256), d.frame()
	case ctl.Seen:
		m.Port, m.Peer = 1+d.Intn(8), at(1+d.Intn(3), 1+d.Intn(8))
	default:
		m.Epoch, m.Seq = uint32(d.Intn(5)), uint32(d.Intn(9))
	}
	if d.Intn(4) == 0 {
		m = ctl.Msg{
			Kind: d.num(), Sw: d.num(), Life: uint32(d.num()), Epoch: uint32(d.num()), Seq: uint32(d.num()), Port: d.num(), Out: d.num(), Buf: d.num(),
			Enter: d.Intn(2) == 0, Last: d.Intn(2) == 0, Idle: d.num(), Hard: d.num(), Ports: d.num(), Peer: at(d.num(), d.num()), Frame: d.bytes(),
		}
	}
	return m
}

func (d dice) ask() eval.Ask {
	return eval.Ask{From: audit.Who{User: d.text(), Host: d.text()}, To: audit.Who{User: d.text(), Host: d.text()}, Proto: d.num(), Port: d.num()}
}

// all is one call, whichever.
func (d dice) all(c *ctrl.Ctrl, now int64) {
	if d.Intn(8) == 0 {
		now = d.number()
	}
	switch d.Intn(16) {
	case 0:
		c.Policy(d.text(), now)
	case 1:
		c.User(d.text(), talk.Key{A: d.Uint64()}, now)
	case 2:
		c.Host(d.text(), d.mac(), now)
	case 3:
		if d.Intn(6) == 0 {
			c.Revoke(d.text(), now)
		}
	case 4:
		c.Compact(now)
	case 5, 6:
		c.Tick(now)
	case 7:
		c.Decide(d.ask())
		c.State()
		c.Flows()
		c.Bindings()
		c.Links()
		c.Waiting()
		c.Room()
		c.Epoch()
		c.Dead()
	default:
		c.Handle(d.msg(), now)
	}
}

func TestAnyCalls(t *testing.T) {
	dead := 0
	for seed := range int64(60) {
		d := dice{rand.New(rand.NewSource(seed))}
		r := net(t, 100+int(seed)*5)
		r.leases(ha)
		if seed%3 == 0 {
			r.d.Arm(1+d.Intn(100), d.num())
		}
		for i := range int64(400) {
			d.all(r.Ctrl, 100+i)
		}
		if r.Dead() {
			dead++
			tellsNothing(t, r.Ctrl, 600)
		}
	}
	if dead == 0 {
		t.Error("none died")
	}
	var none *ctrl.Ctrl
	d := dice{rand.New(rand.NewSource(1))}
	for range 1000 {
		d.all(none, d.number())
	}
	tellsNothing(t, none, 0)
}

func TestAnyOpen(t *testing.T) {
	d := dice{rand.New(rand.NewSource(2))}
	opened := 0
	for range 3000 {
		c := ctrl.Config{
			Service: d.ip(), Mac: d.mac(), Hosts: d.num(), Lease: d.number(), Lock: d.number(), Retry: d.number(), Ping: d.number(), Age: d.number(),
			Idle: d.num(), Hard: d.num(), Flows: d.num(),
		}
		if x, e := ctrl.Open(block.New(4+d.Intn(20)), c, d.number()); e == api.OK {
			opened++
			d.all(x, d.number())
		} else if x != nil || e != api.ErrArg {
			t.Error(x, e)
		}
	}
	if opened < 5 {
		t.Error(opened)
	}
}
