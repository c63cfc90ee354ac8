package talk

import (
	"ostiary/api"
	"ostiary/bits"
)

// shape tells how many bits each number of a kind has, 0 if the kind does not have it; and whether it has a user.
type shape struct {
	xid, mac, ip, ticks, nonce, tag, why int
	user                                 bool
}

// shapeOf: that of a kind that there isn't has nothing.
func shapeOf(kind int) shape {
	var s shape
	switch kind {
	case Offer, Granted:
		s.ticks = 40
		fallthrough
	case Request:
		s.ip = 32
		fallthrough
	case Discover:
		s.xid, s.mac = 32, 48
	case Refused:
		s.xid, s.mac, s.why = 32, 48, 8
	case Release:
		s.mac, s.ip = 48, 32
	case Response, Logout:
		s.tag = 64
		fallthrough
	case Challenge:
		s.nonce = 64
		fallthrough
	case Hello:
		s.user = true
	case Accept:
		s.user, s.ticks = true, 40
	case Reject:
		s.user, s.why = true, 8
	}
	return s
}

// write takes messages that may be alone.
func write(m Msg) []byte {
	s := shapeOf(m.Kind)
	o := bits.New()
	o.Bits(16, mark)
	o.Bits(8, uint64(m.Kind))
	put(o, s.xid, uint64(m.Xid))
	put(o, s.mac, uint64(m.Mac))
	put(o, s.ip, uint64(m.Ip))
	put(o, s.ticks, uint64(m.Ticks))
	if s.user {
		o.Bits(8, uint64(len(m.User)))
		o.Bytes([]byte(m.User))
	}
	put(o, s.nonce, m.Nonce)
	put(o, s.tag, m.Tag)
	put(o, s.why, uint64(m.Why))
	return o.Done()
}

// read asks for no errors: of bytes that are no message's it tells anything.
func read(b []byte) Msg {
	i := bits.Of(b)
	i.Skip(16)
	m := Msg{Kind: int(i.Bits(8))}
	s := shapeOf(m.Kind)
	m.Xid = uint32(take(i, s.xid))
	m.Mac = api.Mac(take(i, s.mac))
	m.Ip = api.Ip(take(i, s.ip))
	m.Ticks = int64(take(i, s.ticks))
	if s.user {
		m.User = string(i.Bytes(int(i.Bits(8))))
	}
	m.Nonce = take(i, s.nonce)
	m.Tag = take(i, s.tag)
	m.Why = int(take(i, s.why))
	return m
}

func put(o *bits.Out, width int, v uint64) {
	if width > 0 {
		o.Bits(width, v)
	}
}

func take(i *bits.In, width int) uint64 {
	if width == 0 {
		return 0
	}
	return i.Bits(width)
}
