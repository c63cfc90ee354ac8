package ctrl

import (
	"ostiary/api"
	"ostiary/audit"
	"ostiary/bind"
	"ostiary/ctl"
	"ostiary/journal"
)

// write puts a record behind all others, and lets it last. The state is told ahead of that, as nothing else says whether it would refuse it: if the record does not last then, the controller is dead, and nobody is shown its state any more.
func (c *Ctrl) write(r audit.Rec) api.Errno {
	if c.dead {
		return api.ErrDown
	}
	b, e := c.fit(r)
	if e != api.OK {
		return e
	}
	if e := c.state.Apply(r); e != api.OK {
		return e
	}
	e = c.put(b)
	c.dead = e != api.OK
	return e
}

// fit: a record's bytes, if it may be, and there is room for it.
func (c *Ctrl) fit(r audit.Rec) ([]byte, api.Errno) {
	b, e := audit.Encode(r)
	if e != api.OK {
		return nil, e
	}
	if c.journal.Room() < kept(r.Kind)+journal.Need(len(b)) {
		return nil, api.ErrFull
	}
	return b, api.OK
}

// kept is how many blocks must be left behind a record of that kind.
func kept(kind int) int {
	switch kind {
	case audit.Policy, audit.User, audit.Host, audit.Lease, audit.Login, audit.Admit:
		return Reserve
	case audit.Deny:
		return 2 * Reserve
	}
	return 0
}

func (c *Ctrl) put(b []byte) api.Errno {
	if e := c.journal.Append(b); e != api.OK {
		return e
	}
	return c.journal.Sync()
}

// renew writes all anew that counts still.
func (c *Ctrl) renew(now int64) api.Errno {
	var l [][]byte
	for _, r := range c.state.Recs(now) {
		b, e := audit.Encode(r)
		if e != api.OK {
			return e
		}
		l = append(l, b)
	}
	e := c.journal.Renew(l...)
	c.dead = e == api.ErrDown
	return e
}

// nextEpoch is the record of the epoch behind the one that is now.
func (c *Ctrl) nextEpoch(now int64) audit.Rec {
	return audit.Rec{Kind: audit.Epoch, Time: now, Epoch: c.state.Epoch() + 1}
}

// bump: an epoch begins, and nothing that was let in ahead counts any more. What goes must not come back behind a loss of power, so without its record nothing goes on.
func (c *Ctrl) bump(now int64) []ctl.Msg {
	if c.write(c.nextEpoch(now)) != api.OK {
		c.dead = true
		return nil
	}
	c.ledger.Begin(c.state.Epoch())
	c.plans.Clear()
	return c.sayAll(ctl.Flush)
}

// log writes down who is logged in no more, and why.
func (c *Ctrl) log(l []bind.Binding, why api.Errno, now int64) {
	for _, b := range l {
		if b.User != "" {
			c.write(audit.Rec{Kind: audit.Logoff, Time: now, Name: b.User, Why: int(why)})
		}
	}
}

// leave: nobody is at some ports any more. It tells whether somebody was.
func (c *Ctrl) leave(now int64, l ...api.Place) bool {
	gone := c.bindings.Leave(l...)
	c.log(gone, api.ErrDown, now)
	return len(gone) > 0
}

// say is a message with a number to a switch that has joined.
func (c *Ctrl) say(kind, sw int) ctl.Msg {
	c.said++
	return ctl.Msg{Kind: kind, Sw: sw, Life: c.lives[sw], Epoch: c.state.Epoch(), Seq: c.said}
}

func (c *Ctrl) sayAll(kind int) []ctl.Msg {
	var l []ctl.Msg
	for sw, joined := range c.joined {
		if joined {
			l = append(l, c.say(kind, sw))
		}
	}
	return l
}
