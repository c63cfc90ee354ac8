package ctrl

import (
	"slices"

	"ostiary/api"
	"ostiary/audit"
	"ostiary/bind"
	"ostiary/ctl"
	"ostiary/talk"
)

// lease: a machine that is known asks for an address, or gives it back.
func (c *Ctrl) lease(a asked, now int64) []ctl.Msg {
	m, e := talk.Parse(a.Body)
	host, known := c.book.HostOf(a.Src)
	if e != api.OK || m.Mac != a.Src || !known {
		return nil
	}
	switch m.Kind {
	case talk.Discover:
		return c.offer(a, m, now)
	case talk.Request:
		return c.grant(a, m, host, now)
	case talk.Release:
		return c.release(a, m, now)
	}
	return nil
}

func (c *Ctrl) offer(a asked, m talk.Msg, now int64) []ctl.Msg {
	ip, e := c.pool.Offer(m.Mac, now)
	if e != api.OK {
		return c.refuse(a, m, e)
	}
	return c.answer(a, talk.Msg{Kind: talk.Offer, Xid: m.Xid, Mac: m.Mac, Ip: ip, Ticks: c.set.Lease})
}

func (c *Ctrl) refuse(a asked, m talk.Msg, why api.Errno) []ctl.Msg {
	return c.answer(a, talk.Msg{Kind: talk.Refused, Xid: m.Xid, Mac: m.Mac, Why: int(why)})
}

func (c *Ctrl) grant(a asked, m talk.Msg, host string, now int64) []ctl.Msg {
	until, e := c.pool.Grant(m.Mac, m.Ip, now)
	if e != api.OK {
		return c.refuse(a, m, e)
	}
	if e := c.write(audit.Rec{Kind: audit.Lease, Time: now, Mac: m.Mac, Ip: m.Ip, Until: until}); e != api.OK {
		c.pool.Free(m.Mac)
		return c.refuse(a, m, e)
	}
	l := c.bumpIf(c.settle(bind.Binding{Mac: m.Mac, Ip: m.Ip, At: a.at, Host: host, Until: until}), now)
	return append(l, c.answer(a, talk.Msg{Kind: talk.Granted, Xid: m.Xid, Mac: m.Mac, Ip: m.Ip, Ticks: c.set.Lease})...)
}

// settle: a binding stands, and who is logged in there stays, if it stood there ahead. It tells whether somebody who was logged in elsewhere, or as another one, is so no more.
func (c *Ctrl) settle(b bind.Binding) bool {
	moved := func(o bind.Binding) bool { return o.Mac != b.Mac || o.Ip != b.Ip || o.At != b.At }
	if o, ok := c.bindings.At(b.At); ok && !moved(o) {
		b.User = o.User
	}
	gone, _ := c.bindings.Put(b)
	return slices.ContainsFunc(gone, func(o bind.Binding) bool { return o.User != "" && moved(o) })
}

func (c *Ctrl) release(a asked, m talk.Msg, now int64) []ctl.Msg {
	if !c.there(a, m.Ip) {
		return nil
	}
	b, _ := c.bindings.At(a.at)
	c.pool.Free(m.Mac)
	c.unlet(m.Mac, m.Ip, now)
	c.leave(now, a.at)
	return c.bumpIf(b.User != "", now)
}
