package world

import (
	"ostiary/api"
	"ostiary/cable"
	"ostiary/ctrl"
	"ostiary/talk"
)

// begins: a step, if there is a world.
func (w *World) begins() bool {
	if w == nil {
		return false
	}
	w.step++
	return true
}

// Tick: time goes on.
func (w *World) Tick() {
	if !w.begins() {
		return
	}
	w.now++
	for sw := 1; sw <= api.MaxSwitch; sw++ {
		w.act(sw, w.Switch(sw).Tick(w.now), service)
	}
	w.say(w.ctrl.Tick(w.now))
}

// Join, Attach: something is plugged in.
func (w *World) Join(a, b api.Place) api.Errno {
	if !w.begins() {
		return api.ErrNil
	}
	e := w.cables.Join(a, b)
	if e == api.OK {
		w.plug(true, a, b)
	}
	return e
}

func (w *World) Attach(host int, p api.Place) api.Errno {
	if !w.begins() {
		return api.ErrNil
	}
	e := w.cables.Attach(host, p)
	if e == api.OK {
		w.plug(true, p)
	}
	return e
}

// Pull: it is so no more, and what is on its way there never comes.
func (w *World) Pull(p api.Place) bool {
	if !w.begins() {
		return false
	}
	other, ok := w.cables.Pull(p)
	if !ok {
		return false
	}
	ends := []api.Place{p}
	if other.Kind == cable.Switch {
		ends = append(ends, other.Place)
	}
	w.loseTo(ends...)
	w.plug(false, ends...)
	return true
}

// Crash: the controller's power goes.
func (w *World) Crash(keep ...int) bool {
	if !w.begins() {
		return false
	}
	was := w.ctrl != nil
	w.device.Off(keep...)
	w.ctrl = nil
	return was
}

// Restart: it is back.
func (w *World) Restart() api.Errno {
	if !w.begins() {
		return api.ErrNil
	}
	w.device.On()
	return w.open()
}

// Arm: it will go in the midst of a write.
func (w *World) Arm(acts int, keep ...int) {
	if w.begins() {
		w.device.Arm(acts, keep...)
	}
}

// Policy, User, Host, Revoke, Compact: what those who run it do. Of no controller they are ErrDown, as of a nil one.
func (w *World) Policy(text string) (int, api.Errno) {
	if !w.begins() {
		return 0, api.ErrNil
	}
	l, at, e := w.ctrl.Policy(text, w.now)
	w.say(l)
	return at, e
}

func (w *World) User(name string, k talk.Key) api.Errno {
	if !w.begins() {
		return api.ErrNil
	}
	return w.ctrl.User(name, k, w.now)
}

func (w *World) Host(name string, m api.Mac) api.Errno {
	if !w.begins() {
		return api.ErrNil
	}
	return w.ctrl.Host(name, m, w.now)
}

func (w *World) Revoke(name string) api.Errno {
	if !w.begins() {
		return api.ErrNil
	}
	l, e := w.ctrl.Revoke(name, w.now)
	w.say(l)
	return e
}

func (w *World) Compact() api.Errno {
	if !w.begins() {
		return api.ErrNil
	}
	return w.ctrl.Compact(w.now)
}

// open: there is a controller again, or none.
func (w *World) open() api.Errno {
	c, e := ctrl.Open(w.device, w.set.Ctrl, w.now)
	w.ctrl = c
	return e
}

func (w *World) plug(up bool, l ...api.Place) {
	for _, p := range l {
		w.act(p.Sw, w.Switch(p.Sw).Plug(p.Port, up, w.now), service)
	}
}
