package relay

import (
	"bytes"

	"ostiary/api"
	"ostiary/ctl"
	"ostiary/entry"
	"ostiary/flow"
	"ostiary/frame"
)

// Frame: one comes in.
func (r *Relay) Frame(port int, tag int64, b []byte, now int64) []Act {
	switch {
	case r == nil:
		return nil
	case !r.up(port):
		return dropped(api.ErrRange)
	case tag == Probing:
		return r.probed(port, b)
	}
	f, e := frame.Parse(b)
	if e != api.OK {
		return dropped(e)
	}
	k, keyed := flow.Of(f)
	if keyed {
		if x, ok := r.table.Match(port, tag, k, now); ok {
			return r.follow(x, b)
		}
	}
	if tag != Untagged {
		return dropped(api.ErrStale)
	}
	if !r.open {
		return dropped(api.ErrState)
	}
	return r.ask(heldFrame{port: port, key: k, keyed: keyed, bytes: bytes.Clone(b)})
}

// probed: who sent it stands in its two bytes.
func (r *Relay) probed(port int, b []byte) []Act {
	if !r.open || len(b) != 2 || !within(int(b[0]), api.MaxSwitch) || !within(int(b[1]), api.MaxPort) {
		return dropped(api.ErrForm)
	}
	return r.says(ctl.Msg{Kind: ctl.Seen, Port: port, Peer: api.Place{Sw: int(b[0]), Port: int(b[1])}})
}

func (r *Relay) follow(x entry.Entry, b []byte) []Act {
	tag := int64(x.Epoch)
	if x.Last {
		tag = Untagged
	}
	return r.send(x.Out, tag, b)
}

func (r *Relay) send(port int, tag int64, b []byte) []Act {
	if !r.up(port) {
		return dropped(api.ErrDown)
	}
	return []Act{{Kind: Forward, Port: port, Tag: tag, Frame: bytes.Clone(b)}}
}

// ask holds a frame, and asks about it.
func (r *Relay) ask(x heldFrame) []Act {
	x.number = r.next
	r.next = (r.next + 1) % numbers
	var acts []Act
	if _, full := r.held.Push(x); full {
		acts = dropped(api.ErrFull)
	}
	return append(acts, r.says(ctl.Msg{Kind: ctl.Miss, Epoch: r.epoch, Port: x.port, Buf: x.number, Frame: bytes.Clone(x.bytes)})...)
}
