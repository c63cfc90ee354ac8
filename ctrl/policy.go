package ctrl

import (
	"slices"

	"ostiary/api"
	"ostiary/audit"
	"ostiary/ctl"
	"ostiary/group"
	"ostiary/pol"
	"ostiary/table"
	"ostiary/talk"
)

// mostText is how many bytes a policy's text may have, as its record has no room for more.
const mostText = 800

// policy is what a text means, and its table for those who are known. Without a table nobody may do anything.
type policy struct {
	pol.Policy
	*table.Table
}

// Policy: another one, if its text is one; else the place and the error.
func (c *Ctrl) Policy(text string, now int64) ([]ctl.Msg, int, api.Errno) {
	if c.Dead() {
		return nil, 0, api.ErrDown
	}
	if len(text) > mostText {
		return nil, 0, api.ErrLong
	}
	p, at, e := c.read(text)
	if e != api.OK {
		return nil, at, e
	}
	if e := c.write(audit.Rec{Kind: audit.Policy, Time: now, Text: text}); e != api.OK {
		return nil, 0, e
	}
	c.policy = p
	l, e := c.unlessDead(c.bump(now))
	return l, 0, e
}

// User: one more.
func (c *Ctrl) User(name string, k talk.Key, now int64) api.Errno {
	r := audit.Rec{Kind: audit.User, Time: now, Name: name, A: k.A, B: k.B}
	return c.enter(r, func() { c.book.User(name, k) })
}

// Host: one more.
func (c *Ctrl) Host(name string, m api.Mac, now int64) api.Errno {
	r := audit.Rec{Kind: audit.Host, Time: now, Name: name, Mac: m}
	return c.enter(r, func() { c.book.Host(name, m) })
}

// Revoke: one no more, and nothing that was let in for him.
func (c *Ctrl) Revoke(name string, now int64) ([]ctl.Msg, api.Errno) {
	if c.Dead() {
		return nil, api.ErrDown
	}
	if e := c.write(audit.Rec{Kind: audit.Revoke, Time: now, Name: name}); e != api.OK {
		return nil, e
	}
	c.book.Revoke(name)
	c.rule()
	c.log(c.bindings.Forget(name), api.ErrAuth, now)
	return c.unlessDead(c.bump(now))
}

// Compact: the journal has no more than what counts still.
func (c *Ctrl) Compact(now int64) api.Errno {
	if c.Dead() {
		return api.ErrDown
	}
	return c.renew(now)
}

// enter: somebody is known from now on, to the book, too.
func (c *Ctrl) enter(r audit.Rec, book func()) api.Errno {
	if c.Dead() {
		return api.ErrDown
	}
	if slices.ContainsFunc(c.policy.Groups, func(g pol.Group) bool { return g.Name == r.Name }) {
		return api.ErrThere
	}
	if e := c.write(r); e != api.OK {
		return e
	}
	book()
	c.rule()
	return api.OK
}

// rule: the policy is for those who are known now.
func (c *Ctrl) rule() { c.policy, _, _ = c.read(c.state.Policy()) }

// read: what a text means for those who are known; else the place and the error, beside as much as it means for anybody.
func (c *Ctrl) read(text string) (policy, int, api.Errno) {
	p, at, e := pol.Parse(text)
	if e != api.OK {
		return policy{}, at, e
	}
	users, hosts := c.state.Users(), c.state.Hosts()
	s, _, e := group.Resolve(p, slices.Concat(users, hosts, c.state.Revoked())...)
	if e != api.OK {
		return policy{Policy: p}, 0, e
	}
	t, e := table.Compile(p, s, users, hosts)
	return policy{p, t}, 0, e
}

// unlessDead: one that died in the midst of a call has nothing to say.
func (c *Ctrl) unlessDead(l []ctl.Msg) ([]ctl.Msg, api.Errno) {
	if c.dead {
		return nil, api.ErrDown
	}
	return l, api.OK
}
