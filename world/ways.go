package world

import (
	"bytes"
	"slices"

	"ostiary/api"
	"ostiary/cable"
	"ostiary/ctl"
	"ostiary/pipe"
	"ostiary/relay"
)

// road is what can be asked of a way, whatever takes it.
type road interface {
	Len() int
	Twice(i int) bool
	Lose(l ...int) int
}

// way: one that there isn't has nothing on it, as a nil pipe.
func (w *World) way(n int) road {
	var none *pipe.Pipe[Frame]
	if w == nil {
		return none
	}
	switch n {
	case Air:
		return w.air
	case Up:
		return w.up
	case Down:
		return w.down
	}
	return none
}

// Send: a machine sends.
func (w *World) Send(host int, b []byte) bool {
	if !w.begins() {
		return false
	}
	at, ok := w.cables.Where(host)
	if !ok || len(b) > api.MaxFrame {
		return false
	}
	return w.air.Send(Frame{To: at, Host: -1, Tag: relay.Untagged, Bytes: bytes.Clone(b), Origin: at}) == 1
}

// Move: one on its way comes.
func (w *World) Move(way, i int) bool {
	if !w.begins() {
		return false
	}
	switch way {
	case Air:
		return take(w.air, i, w.arrive)
	case Up:
		return take(w.up, i, w.rise)
	case Down:
		return take(w.down, i, w.sink)
	}
	return false
}

// Twice, Lose: one on its way.
func (w *World) Twice(way, i int) bool { return w.begins() && w.way(way).Twice(i) }

func (w *World) Lose(way, i int) bool { return w.begins() && w.way(way).Lose(i) == 1 }

func take[T any](p *pipe.Pipe[T], i int, comes func(T)) bool {
	v, ok := p.Take(i)
	if ok {
		comes(v)
	}
	return ok
}

// arrive: a frame comes to a machine, or to a switch. Whatever has no tag there is as if a machine had sent it.
func (w *World) arrive(f Frame) {
	if f.Host >= 0 {
		if at, ok := w.cables.Where(f.Host); ok && at == f.To {
			w.delivered = keep(w.delivered, Delivery{f, w.step})
		}
		return
	}
	if f.Tag == relay.Untagged {
		f.Origin, f.Path, f.Service = f.To, nil, false
	}
	l := w.Switch(f.To.Sw).Frame(f.To.Port, f.Tag, f.Bytes, w.now)
	w.act(f.To.Sw, l, w.through(f, f.To))
}

// rise: a message comes up.
func (w *World) rise(b []byte) {
	if m, e := ctl.Parse(b); e == api.OK {
		w.say(w.ctrl.Handle(m, w.now))
	}
}

// sink: a message comes down. An Add lets frames go on that came from a machine; what else goes out is the controller's.
func (w *World) sink(b []byte) {
	m, e := ctl.Parse(b)
	if e != api.OK {
		return
	}
	going := service
	if m.Kind == ctl.Add {
		at := api.Place{Sw: m.Sw, Port: m.Port}
		going = w.through(Frame{Origin: at}, at)
	}
	w.act(m.Sw, w.Switch(m.Sw).Control(m, w.now), going)
}

// say: what the controller says sets out; then it is asked what it began and let in.
func (w *World) say(l []ctl.Msg) {
	for _, m := range l {
		post(w.down, m)
	}
	w.note()
}

func post(p *pipe.Pipe[[]byte], m ctl.Msg) {
	if b, e := ctl.Encode(m); e == api.OK {
		p.Send(b)
	}
}

// act does a switch's acts. A function tells all that a frame has that goes out at a port, but for what the act says of it.
func (w *World) act(sw int, l []relay.Act, going func(out int) Frame) {
	for _, a := range l {
		switch a.Kind {
		case relay.Up:
			post(w.up, a.Msg)
		case relay.Forward:
			f := going(a.Port)
			f.Tag, f.Bytes = a.Tag, a.Frame
			w.fly(f, api.Place{Sw: sw, Port: a.Port})
		}
	}
}

func service(int) Frame { return Frame{Service: true} }

// through is of a frame that came in at a port: it has one hop more when it goes out.
func (w *World) through(f Frame, in api.Place) func(out int) Frame {
	return func(out int) Frame {
		g := f
		if len(f.Path) == 0 {
			g.Epoch = w.Switch(in.Sw).Epoch()
		}
		g.Path = append(slices.Clone(f.Path), api.Hop{Sw: in.Sw, In: in.Port, Out: out})
		return g
	}
}

// fly: a frame that goes out at a port sets out to what is at the other end. No machine is shown a tag.
func (w *World) fly(f Frame, out api.Place) {
	f.To, f.Host = out, -1
	switch e := w.cables.Other(out); {
	case e.Kind == cable.Switch:
		f.To = e.Place
	case e.Kind == cable.Machine && f.Tag == relay.Untagged:
		f.Host = e.Host
	default:
		return
	}
	w.air.Send(f)
}

// loseTo: what is on its way to some ports. The last ones go first, as all behind one that is lost come to stand one place ahead.
func (w *World) loseTo(l ...api.Place) {
	for i := w.air.Len() - 1; i >= 0; i-- {
		if f, ok := w.air.At(i); ok && slices.Contains(l, f.To) {
			w.air.Lose(i)
		}
	}
}
