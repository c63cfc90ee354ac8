package relay

import (
	"ostiary/api"
	"ostiary/ctl"
	"ostiary/entry"
)

// Control: a message comes.
func (r *Relay) Control(m ctl.Msg, now int64) []Act {
	if r == nil || !r.hears(m) {
		return nil
	}
	r.heard = now
	if m.Epoch > r.epoch {
		r.epoch = m.Epoch
		r.empty()
	}
	switch m.Kind {
	case ctl.Welcome:
		r.open = true
		fallthrough
	case ctl.Ping:
		return r.answers(ctl.Alive, m)
	case ctl.Flush:
		return r.answers(ctl.Done, m)
	case ctl.Add:
		return r.add(m, now)
	case ctl.Send:
		return r.send(m.Port, Untagged, m.Frame)
	case ctl.Free:
		return r.free(m.Buf)
	}
	return r.probe(m.Port)
}

func (r *Relay) hears(m ctl.Msg) bool {
	if !ctl.May(m) || ctl.Up(m.Kind) || !r.named(m) {
		return false
	}
	return (r.open || m.Kind == ctl.Welcome) && !r.elder(m)
}

func (r *Relay) add(m ctl.Msg, now int64) []Act {
	x := entry.Entry{Port: m.Port, Key: m.Key, Enter: m.Enter, Last: m.Last, Out: m.Out, Epoch: m.Epoch, Idle: m.Idle, Hard: m.Hard}
	if r.table.Add(x, now) != api.OK {
		return nil
	}
	acts := r.answers(ctl.Done, m)
	if !m.Enter {
		return acts
	}
	for _, x := range r.release(func(x heldFrame) bool { return x.keyed && x.port == m.Port && x.key == m.Key }) {
		acts = append(acts, r.Frame(x.port, Untagged, x.bytes, now)...)
	}
	return acts
}

// free: of two that have one number, as numbers come again, the eldest one.
func (r *Relay) free(number int) []Act {
	for i := range r.held.Len() {
		if x, _ := r.held.At(i); x.number == number {
			r.held.Cut(i)
			return dropped(api.ErrDenied)
		}
	}
	return nil
}

// probe: nobody misses a probe that can't go out.
func (r *Relay) probe(port int) []Act {
	if !r.up(port) {
		return nil
	}
	return r.send(port, Probing, []byte{byte(r.sw), byte(port)})
}
