package ctrl

import (
	"ostiary/api"
	"ostiary/audit"
	"ostiary/bind"
	"ostiary/ctl"
	"ostiary/talk"
)

// login: somebody at a machine that is bound wants to log in, or out.
func (c *Ctrl) login(a asked, now int64) []ctl.Msg {
	m, e := talk.Parse(a.Body)
	if e != api.OK || !c.there(a, a.Head.Src) {
		return nil
	}
	b, _ := c.bindings.At(a.at)
	switch m.Kind {
	case talk.Hello:
		return c.challenge(a, m, now)
	case talk.Response:
		return c.admitUser(a, m, b, now)
	case talk.Logout:
		return c.logout(a, m, b, now)
	}
	return nil
}

// challenge: no number comes twice, also over losses of power, as an epoch never does.
func (c *Ctrl) challenge(a asked, m talk.Msg, now int64) []ctl.Msg {
	c.nonces++
	nonce := uint64(c.state.Epoch())<<32 | uint64(c.nonces)
	if e := c.book.Begin(m.User, a.Src, nonce, now); e != api.OK {
		return c.reject(a, m, e)
	}
	return c.answer(a, talk.Msg{Kind: talk.Challenge, User: m.User, Nonce: nonce})
}

func (c *Ctrl) reject(a asked, m talk.Msg, why api.Errno) []ctl.Msg {
	return c.answer(a, talk.Msg{Kind: talk.Reject, User: m.User, Why: int(why)})
}

func (c *Ctrl) admitUser(a asked, m talk.Msg, b bind.Binding, now int64) []ctl.Msg {
	e := c.book.Finish(m.User, a.Src, a.Head.Src, m.Nonce, m.Tag, now)
	if e == api.OK {
		e = c.write(audit.Rec{Kind: audit.Login, Time: now, Name: m.User, Mac: b.Mac, Ip: b.Ip, From: a.at})
	}
	if e != api.OK {
		return c.reject(a, m, e)
	}
	c.bindings.Login(a.Src, m.User)
	var l []ctl.Msg
	if b.User != "" && b.User != m.User {
		c.log([]bind.Binding{b}, api.ErrThere, now)
		l = c.bump(now)
	}
	return append(l, c.answer(a, talk.Msg{Kind: talk.Accept, User: m.User, Ticks: max(b.Until-now, 0)})...)
}

func (c *Ctrl) logout(a asked, m talk.Msg, b bind.Binding, now int64) []ctl.Msg {
	if b.User != m.User || !c.book.Proves(m.User, talk.Logout, a.Src, a.Head.Src, m.Nonce, m.Tag) {
		return c.reject(a, m, api.ErrAuth)
	}
	c.bindings.Logout(a.Src)
	c.log([]bind.Binding{b}, api.OK, now)
	l := c.bump(now)
	return append(l, c.answer(a, talk.Msg{Kind: talk.Accept, User: m.User})...)
}
