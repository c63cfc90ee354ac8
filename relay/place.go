package relay

import "ostiary/ctl"

// place is where a switch stands among others.
type place struct {
	sw          int
	life, epoch uint32
}

// named: is a message for this switch, in this life?
func (p place) named(m ctl.Msg) bool { return m.Sw == p.sw && m.Life == p.life }

// elder: is a message of an elder epoch? Some have none, which must not count as epoch 0.
func (p place) elder(m ctl.Msg) bool {
	switch m.Kind {
	case ctl.Free, ctl.Probe:
		return false
	}
	return m.Epoch < p.epoch
}

// says: a message goes up.
func (p place) says(m ctl.Msg) []Act {
	m.Sw, m.Life = p.sw, p.life
	return []Act{{Kind: Up, Msg: m}}
}

// answers: a message goes up that tells which one it answers.
func (p place) answers(kind int, m ctl.Msg) []Act {
	return p.says(ctl.Msg{Kind: kind, Epoch: p.epoch, Seq: m.Seq})
}
