package ctrl

import (
	"ostiary/api"
	"ostiary/ctl"
	"ostiary/frame"
	"ostiary/talk"
)

// everybody is the address by which whoever has none yet asks for one.
const everybody = api.Ip(1<<32 - 1)

// How frames of the controller's own are.
const (
	ttl     = 64
	asking  = 1 // Ops of Arps
	telling = 2
)

// asked is a frame that a switch holds, and asks about.
type asked struct {
	frame.Frame
	at   api.Place // where it came in
	life uint32    // the switch's
	buf  int       // its number there
}

func (c *Ctrl) miss(m ctl.Msg, now int64) []ctl.Msg {
	f, e := frame.Parse(m.Frame)
	a := asked{f, api.Place{Sw: m.Sw, Port: m.Port}, m.Life, m.Buf}
	switch {
	case e != api.OK || !c.view.Edge(a.at):
		return a.free()
	case a.Type == api.TypeArp:
		return append(c.resolve(a), a.free()...)
	case a.goes(api.LeasePort, c.set.Service, everybody):
		return append(c.lease(a, now), a.free()...)
	case a.goes(api.AuthPort, c.set.Service):
		return append(c.login(a, now), a.free()...)
	case a.Type == api.TypeIp:
		return c.let(a, now)
	}
	return a.free()
}

// free: it is held no more.
func (a asked) free() []ctl.Msg {
	return []ctl.Msg{{Kind: ctl.Free, Sw: a.at.Sw, Life: a.life, Buf: a.buf}}
}

// goes: is it for a service, at one of some addresses?
func (a asked) goes(port int, l ...api.Ip) bool {
	if a.Head.Proto != api.Udp || a.Ends.Dport != port {
		return false
	}
	for _, ip := range l {
		if a.Head.Dst == ip {
			return true
		}
	}
	return false
}

// there: is somebody with its addresses bound where it came in, whether he is logged in or not?
func (c *Ctrl) there(a asked, ip api.Ip) bool {
	_, e := c.bindings.Check(a.at, a.Src, ip)
	return e == api.OK || e == api.ErrAuth
}

// resolve: only who is bound is told who has an address.
func (c *Ctrl) resolve(a asked) []ctl.Msg {
	if a.Arp.Op != asking || a.Arp.Sha != a.Src || !c.there(a, a.Arp.Spa) {
		return nil
	}
	m, ok := c.whose(a.Arp.Tpa)
	if !ok {
		return nil
	}
	f := frame.Frame{Dst: a.Src, Src: m, Type: api.TypeArp}
	f.Arp = frame.Arp{Op: telling, Sha: m, Spa: a.Arp.Tpa, Tha: a.Src, Tpa: a.Arp.Spa}
	return c.sendBack(a, f)
}

func (c *Ctrl) whose(ip api.Ip) (api.Mac, bool) {
	if ip == c.set.Service {
		return c.set.Mac, true
	}
	b, ok := c.bindings.Of(ip)
	return b.Mac, ok
}

// answer: a service tells whoever asked it.
func (c *Ctrl) answer(a asked, m talk.Msg) []ctl.Msg {
	b, e := talk.Encode(m)
	if e != api.OK {
		return nil
	}
	f := frame.Frame{Dst: a.Src, Src: c.set.Mac, Type: api.TypeIp, Body: b}
	f.Head = frame.Head{Src: c.set.Service, Dst: a.Head.Src, Proto: api.Udp, Ttl: ttl}
	f.Ends = frame.Ends{Sport: a.Ends.Dport, Dport: a.Ends.Sport}
	return c.sendBack(a, f)
}

func (c *Ctrl) sendBack(a asked, f frame.Frame) []ctl.Msg {
	b, e := frame.Encode(f)
	if e != api.OK {
		return nil
	}
	return []ctl.Msg{{Kind: ctl.Send, Sw: a.at.Sw, Life: a.life, Epoch: c.state.Epoch(), Port: a.at.Port, Frame: b}}
}
