package ctl

import (
	"math"

	"ostiary/api"
	"ostiary/bits"
	"ostiary/flow"
	"ostiary/sum"
)

// What the bytes of each message begin with, how many are ahead of the kind, how many the sum has, and how many there are at least.
const (
	mark       = 0xC0DE
	kindAt     = 4
	sumBytes   = 4
	leastBytes = 14
)

// fields is a set of them. Two that each kind has both or neither of are one.
type fields int

const (
	epoch fields = 1 << iota
	seq
	port
	out
	buf
	flags // Enter, Last
	times // Idle, Hard
	ports
	peer
	key
	frame
)

// fieldsOf: a kind that there isn't has none.
func fieldsOf(kind int) fields {
	switch kind {
	case Join, Changed:
		return ports
	case Alive, Done, Welcome, Ping, Flush:
		return epoch | seq
	case Miss:
		return epoch | port | buf | frame
	case Seen:
		return port | peer
	case Add:
		return epoch | seq | port | out | flags | times | key
	case Send:
		return epoch | port | frame
	case Free:
		return buf
	case Probe:
		return port
	}
	return 0
}

// num is a number of a message: its field, the least and the most that it may be where a kind has it, and what it is. One below 0 is far above all that may be.
type num struct {
	of             fields
	least, most, v uint64
}

// row is numbers that stand side by side and have one width.
type row struct {
	width int
	nums  []num
}

// rowsOf tells all numbers behind the Life, in order.
func rowsOf(m Msg) []row {
	return []row{
		{32, []num{{epoch, 0, math.MaxUint32, uint64(m.Epoch)}, {seq, 0, math.MaxUint32, uint64(m.Seq)}}},
		{8, []num{{port, 1, api.MaxPort, uint64(m.Port)}, {out, 1, api.MaxPort, uint64(m.Out)}, {buf, 0, 255, uint64(m.Buf)}}},
		{1, []num{{flags, 0, 1, bit(m.Enter)}, {flags, 0, 1, bit(m.Last)}}},
		{6, []num{{flags, 0, 0, 0}}},
		{16, []num{{times, 0, 65535, uint64(m.Idle)}, {times, 0, 65535, uint64(m.Hard)}}},
		{8, []num{{ports, 0, 255, uint64(m.Ports)}, {peer, 1, api.MaxSwitch, uint64(m.Peer.Sw)}, {peer, 1, api.MaxPort, uint64(m.Peer.Port)}}},
	}
}

// fits: what a kind does not have is 0.
func (r row) fits(has fields) bool {
	for _, n := range r.nums {
		if has&n.of == 0 && n.v != 0 || has&n.of != 0 && (n.v < n.least || n.v > n.most) {
			return false
		}
	}
	return true
}

// those are the numbers that a kind has.
func (r row) those(has fields) []uint64 {
	var l []uint64
	for _, n := range r.nums {
		if has&n.of != 0 {
			l = append(l, n.v)
		}
	}
	return l
}

// write takes messages that may be alone.
func write(m Msg) []byte {
	has := fieldsOf(m.Kind)
	o := bits.New()
	o.Bits(16, mark, 0)
	o.Bits(8, uint64(m.Kind), uint64(m.Sw))
	o.Bits(32, uint64(m.Life))
	for _, r := range rowsOf(m) {
		o.Bits(r.width, r.those(has)...)
	}
	if has&key != 0 {
		o.Bytes(flow.Bytes(m.Key))
	}
	o.Bytes(m.Frame)
	o.Set(16, 16, uint64(o.Len()/8+sumBytes))
	o.Bits(32, uint64(sum.Crc(o.Done())))
	return o.Done()
}

// reader reads those numbers that a kind has.
type reader struct {
	*bits.In
	has fields
}

func (r reader) num(of fields, width int) uint64 {
	if r.has&of == 0 {
		return 0
	}
	return r.Bits(width)
}

// read takes all bytes but the sum's. It asks for no errors: of bytes that are no message's it tells anything.
func read(b []byte) Msg {
	i := bits.Of(b)
	i.Skip(8 * kindAt)
	m := Msg{Kind: int(i.Bits(8)), Sw: int(i.Bits(8)), Life: uint32(i.Bits(32))}
	r := reader{i, fieldsOf(m.Kind)}
	m.Epoch, m.Seq = uint32(r.num(epoch, 32)), uint32(r.num(seq, 32))
	m.Port, m.Out, m.Buf = int(r.num(port, 8)), int(r.num(out, 8)), int(r.num(buf, 8))
	m.Enter, m.Last = r.num(flags, 1) == 1, r.num(flags, 1) == 1
	r.num(flags, 6)
	m.Idle, m.Hard = int(r.num(times, 16)), int(r.num(times, 16))
	m.Ports = int(r.num(ports, 8))
	m.Peer.Sw, m.Peer.Port = int(r.num(peer, 8)), int(r.num(peer, 8))
	if r.has&key != 0 {
		m.Key, _ = flow.Read(i.Bytes(flow.Size))
	}
	if r.has&frame != 0 {
		m.Frame = i.Rest()
	}
	return m
}

func bit(b bool) uint64 {
	if b {
		return 1
	}
	return 0
}
