package plan

import (
	"ostiary/api"
	"ostiary/ctl"
	"ostiary/ledger"
)

// plan is a path that is being put in, its flow's.
type plan struct {
	ledger.Flow
	lives      Lives
	idle, hard int
	hop        int // the one that is now
	seq        uint32
	said       bool
	at         int64 // when it was said last
}

// may: can all of it be said?
func (x *plan) may() bool {
	for i := range x.Path {
		if !ctl.May(x.msg(i)) {
			return false
		}
	}
	return len(x.Path) > 0
}

// waits: is that what was said of the hop that is now? Its number tells nearly all others apart, so the message is laid out for few.
func (x *plan) waits(sw int, life, epoch, seq uint32) bool {
	if !x.said || x.seq != seq {
		return false
	}
	m := x.msg(x.hop)
	return m.Sw == sw && m.Life == life && m.Epoch == epoch
}

// msg is a hop's message.
func (x *plan) msg(i int) ctl.Msg {
	h := x.Path[i]
	return ctl.Msg{
		Kind: ctl.Add, Sw: h.Sw, Life: x.life(h.Sw), Epoch: x.Epoch, Seq: x.seq,
		Port: h.In, Out: h.Out, Enter: i == 0, Last: i == len(x.Path)-1,
		Idle: x.idle, Hard: x.hard, Key: x.Key,
	}
}

// life: of a switch that there isn't it is 0, as paths are asked about ahead of being kept.
func (x *plan) life(sw int) uint32 {
	if sw < 1 || sw > api.MaxSwitch {
		return 0
	}
	return x.lives[sw]
}
