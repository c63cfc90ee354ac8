package ctrl

import (
	"ostiary/api"
	"ostiary/audit"
	"ostiary/bind"
	"ostiary/ctl"
	"ostiary/eval"
	"ostiary/flow"
	"ostiary/ledger"
	"ostiary/pol"
	"ostiary/route"
)

// let: a flow's first frame, or one that came ahead of its path. It is held till the path is whole, or freed.
func (c *Ctrl) let(a asked, now int64) []ctl.Msg {
	k, _ := flow.Of(a.Frame)
	f, known := c.ledger.Find(k)
	e := api.OK
	switch {
	case !known:
		f, e = c.admit(a.at, k, now)
	case f.From != a.at:
		e = api.ErrSpoof
	}
	if e != api.OK {
		c.write(audit.Rec{Kind: audit.Deny, Time: now, Why: int(e), From: a.at, Key: k})
		return a.free()
	}
	c.plans.Start(f, c.lives, c.set.Idle, c.set.Hard)
	return c.plans.Next(now)
}

// admit: what is let in is written down ahead of anything that is said of it.
func (c *Ctrl) admit(at api.Place, k api.Key, now int64) (ledger.Flow, api.Errno) {
	f, e := c.decide(at, k)
	if e != api.OK {
		return ledger.Flow{}, e
	}
	if _, e := c.fit(f.Rec(now)); e != api.OK {
		return ledger.Flow{}, api.ErrFull
	}
	f, e = c.ledger.Admit(f)
	if e != api.OK {
		return ledger.Flow{}, e
	}
	if c.write(f.Rec(now)) != api.OK {
		c.dead = true
	}
	return f, api.OK
}

// decide: who wants to talk to whom, may they, and by which path?
func (c *Ctrl) decide(at api.Place, k api.Key) (ledger.Flow, api.Errno) {
	src, e := c.bindings.Check(at, k.Src, k.SrcIp)
	if e != api.OK {
		return ledger.Flow{}, e
	}
	dst, ok := c.bindings.Of(k.DstIp)
	if !ok || dst.Mac != k.Dst || dst.User == "" {
		return ledger.Flow{}, api.ErrNone
	}
	f := ledger.Flow{Epoch: c.ledger.Epoch(), Key: k, From: at, To: dst.At, Src: whoOf(src), Dst: whoOf(dst)}
	v := c.verdict(f)
	if !v.Allowed() {
		return ledger.Flow{}, api.ErrDenied
	}
	f.Act, f.Rule = v.Act, v.Rule
	f.Path, e = route.Path(c.view.Links(), f.From, f.To, v.Via...)
	if e == api.OK && !c.view.Edge(f.To) {
		e = api.ErrPath
	}
	return f, e
}

// verdict: what the policy does not allow may be the way back of what it does.
func (c *Ctrl) verdict(f ledger.Flow) eval.Verdict {
	v := c.policy.Lookup(eval.Ask{From: f.Src, To: f.Dst, Proto: f.Key.Proto, Port: f.Key.Dport})
	if v.Allowed() {
		return v
	}
	there, ok := c.ledger.Reply(f.Key)
	if ok && there.From == f.To && there.To == f.From {
		return eval.Verdict{Act: pol.Allow, Rule: there.Rule}
	}
	return v
}

func whoOf(b bind.Binding) audit.Who { return audit.Who{User: b.User, Host: b.Host} }
