package ctrl

import (
	"ostiary/api"
	"ostiary/audit"
	"ostiary/ctl"
)

// Tick: time goes on.
func (c *Ctrl) Tick(now int64) []ctl.Msg {
	if c.Dead() {
		return nil
	}
	l := c.age(now)
	l = append(l, c.plans.Next(now)...)
	if now%c.set.Ping == 0 {
		l = append(l, c.sayAll(ctl.Ping)...)
		l = append(l, c.probes()...)
	}
	l, _ = c.unlessDead(l)
	return l
}

// Handle: a message of a switch.
func (c *Ctrl) Handle(m ctl.Msg, now int64) []ctl.Msg {
	if c.Dead() || !ctl.May(m) || !ctl.Up(m.Kind) {
		return nil
	}
	l, _ := c.unlessDead(c.hear(m, now))
	return l
}

// age: what is over goes.
func (c *Ctrl) age(now int64) []ctl.Msg {
	for _, l := range c.pool.Tick(now) {
		c.unlet(l.Mac, l.Ip, now)
	}
	gone := c.bindings.Tick(now)
	c.log(gone, api.ErrNone, now)
	lost := c.view.Age(now, c.set.Age)
	return c.bumpIf(len(gone) > 0 || len(lost) > 0, now)
}

func (c *Ctrl) unlet(m api.Mac, ip api.Ip, now int64) {
	c.write(audit.Rec{Kind: audit.Unlet, Time: now, Mac: m, Ip: ip})
}

func (c *Ctrl) probes() []ctl.Msg {
	var l []ctl.Msg
	for _, sw := range c.view.Switches() {
		for port := 1; port <= api.MaxPort; port++ {
			if c.view.Up(api.Place{Sw: sw, Port: port}) {
				l = append(l, ctl.Msg{Kind: ctl.Probe, Sw: sw, Life: c.lives[sw], Port: port})
			}
		}
	}
	return l
}

// hear: only a Join is heard of a switch that has not joined, or is in another life.
func (c *Ctrl) hear(m ctl.Msg, now int64) []ctl.Msg {
	if m.Kind == ctl.Join {
		return c.join(m, now)
	}
	if !c.joined[m.Sw] || c.lives[m.Sw] != m.Life {
		return nil
	}
	switch m.Kind {
	case ctl.Changed:
		return c.bumpIf(c.ports(m, now), now)
	case ctl.Seen:
		return c.bumpIf(c.see(m, now), now)
	case ctl.Done:
		c.plans.Done(m.Sw, m.Life, m.Epoch, m.Seq)
		return c.plans.Next(now)
	case ctl.Miss:
		return c.miss(m, now)
	}
	return nil
}

// join: a switch that comes again has thrown away all that it had.
func (c *Ctrl) join(m ctl.Msg, now int64) []ctl.Msg {
	if m.Life < c.lives[m.Sw] {
		return nil
	}
	again := c.joined[m.Sw] && m.Life != c.lives[m.Sw]
	if again {
		c.view.Drop(m.Sw)
		c.leave(now, placesOf(m.Sw)...)
	}
	c.joined[m.Sw], c.lives[m.Sw] = true, m.Life
	lost := c.ports(m, now)
	l := c.bumpIf(again || lost, now)
	return append(l, c.say(ctl.Welcome, m.Sw))
}

// ports are as a message says. It tells whether a link or a binding was lost.
func (c *Ctrl) ports(m ctl.Msg, now int64) bool {
	links := c.view.Ports(m.Sw, m.Ports)
	var down []api.Place
	for _, p := range placesOf(m.Sw) {
		if !c.view.Up(p) {
			down = append(down, p)
		}
	}
	return c.leave(now, down...) || len(links) > 0
}

// see: where a link ends no machine is. It tells whether a link or a binding was lost.
func (c *Ctrl) see(m ctl.Msg, now int64) bool {
	at := api.Place{Sw: m.Sw, Port: m.Port}
	links, learned := c.view.Learn(m.Peer, at, now)
	if !learned {
		return false
	}
	return c.leave(now, m.Peer, at) || len(links) > 0
}

func (c *Ctrl) bumpIf(is bool, now int64) []ctl.Msg {
	if !is {
		return nil
	}
	return c.bump(now)
}

func placesOf(sw int) []api.Place {
	var l []api.Place
	for port := 1; port <= api.MaxPort; port++ {
		l = append(l, api.Place{Sw: sw, Port: port})
	}
	return l
}
