package frame_test

import (
	"bytes"
	"encoding/binary"
	"encoding/hex"
	"math"
	"slices"
	"strconv"
	"strings"
	"testing"

	"ostiary/api"
	"ostiary/frame"
)

// Where parts begin, and sums stand, in bytes.
const (
	headAt  = 14
	endsAt  = 34
	headSum = 24
	udpSum  = 40
	tcpSum  = 50
)

const (
	ann = api.Mac(0x0A0000000001)
	bob = api.Mac(0x0B0000000002)
)

func plain(typ int, body ...byte) frame.Frame {
	return frame.Frame{Dst: bob, Src: ann, Type: typ, Body: body}
}

func arp(op int) frame.Frame {
	f := plain(api.TypeArp)
	f.Arp = frame.Arp{Op: op, Sha: ann, Tha: bob, Spa: 0x0A000001, Tpa: 0x0A000002}
	return f
}

func other(proto int, body ...byte) frame.Frame {
	f := plain(api.TypeIp, body...)
	f.Head = frame.Head{Src: 0x0A000001, Dst: 0x0A000002, Proto: proto, Ttl: 64, Id: 7}
	return f
}

func udp(body ...byte) frame.Frame {
	f := other(api.Udp, body...)
	f.Ends = frame.Ends{Sport: 5, Dport: 67}
	return f
}

func tcp(body ...byte) frame.Frame {
	f := other(api.Tcp, body...)
	f.Ends = frame.Ends{Sport: 4000, Dport: 80, Seq: 0x01020304, Ack: 0xF1F2F3F4, Flags: 0x18, Win: 0x2000}
	return f
}

// kind is one of frames, of which there may be some with a Body and some without.
type kind struct {
	name   string
	bytes  int // all but the Body
	bodied bool
	of     func(body ...byte) frame.Frame
}

var kinds = []kind{
	{"unknown", 14, true, func(b ...byte) frame.Frame { return plain(0x1234, b...) }},
	{"arp", 42, false, func(b ...byte) frame.Frame { return arp(1) }},
	{"icmp", 34, true, func(b ...byte) frame.Frame { return other(1, b...) }},
	{"udp", 42, true, func(b ...byte) frame.Frame { return udp(b...) }},
	{"tcp", 54, true, func(b ...byte) frame.Frame { return tcp(b...) }},
}

// someOf are frames of all kinds with no Body, an even one and odd ones.
func someOf() []frame.Frame {
	var l []frame.Frame
	for _, k := range kinds {
		l = append(l, k.of())
		if k.bodied {
			l = append(l, k.of(0), k.of(0xAB), k.of(1, 2), k.of(0xFF, 0, 0x80), k.of(rising(api.MaxFrame-k.bytes)...))
		}
	}
	return append(l, arp(2), other(0, 9), other(255), plain(1536, 1), plain(65535))
}

func rising(n int) []byte {
	l := make([]byte, n)
	for i := range l {
		l[i] = byte(i)
	}
	return l
}

// net adds numbers one by one, and what goes beyond sixteen bits at once.
func net(l []byte) uint16 {
	s := 0
	for i, c := range l {
		n := int(c)
		if i%2 == 0 {
			n *= 256
		}
		if s += n; s > 0xFFFF {
			s -= 0xFFFF
		}
	}
	return ^uint16(s)
}

func mac(l []byte, m api.Mac) []byte {
	return append(l, byte(m>>40), byte(m>>32), byte(m>>24), byte(m>>16), byte(m>>8), byte(m))
}

// raw puts a frame that may be into bytes, in another way than the package does.
func raw(f frame.Frame) []byte {
	be := binary.BigEndian
	l := be.AppendUint16(mac(mac(nil, f.Dst), f.Src), uint16(f.Type))
	switch f.Type {
	case api.TypeArp:
		l = append(l, 0, 1, 8, 0, 6, 4, 0, byte(f.Arp.Op))
		l = be.AppendUint32(mac(l, f.Arp.Sha), uint32(f.Arp.Spa))
		l = be.AppendUint32(mac(l, f.Arp.Tha), uint32(f.Arp.Tpa))
	case api.TypeIp:
		l = append(l, rawHead(f)...)
		l = append(l, rawEnds(f)...)
	}
	l = append(l, f.Body...)
	seal(l)
	return l
}

func rawHead(f frame.Frame) []byte {
	be, h := binary.BigEndian, f.Head
	n := 20 + len(rawEnds(f)) + len(f.Body)
	l := be.AppendUint16(be.AppendUint16([]byte{0x45, 0}, uint16(n)), uint16(h.Id))
	l = append(l, 0, 0, byte(h.Ttl), byte(h.Proto), 0, 0)
	return be.AppendUint32(be.AppendUint32(l, uint32(h.Src)), uint32(h.Dst))
}

func rawEnds(f frame.Frame) []byte {
	be, e := binary.BigEndian, f.Ends
	l := be.AppendUint16(be.AppendUint16(nil, uint16(e.Sport)), uint16(e.Dport))
	switch f.Head.Proto {
	case api.Udp:
		return append(be.AppendUint16(l, uint16(8+len(f.Body))), 0, 0)
	case api.Tcp:
		l = be.AppendUint32(be.AppendUint32(l, e.Seq), e.Ack)
		l = be.AppendUint16(append(l, 0x50, byte(e.Flags)), uint16(e.Win))
		return append(l, 0, 0, 0, 0)
	}
	return nil
}

// seal puts the sums into bytes that have been changed, as far as there is room for them.
func seal(l []byte) {
	if len(l) < endsAt || l[12] != 8 || l[13] != 0 {
		return
	}
	set16(l, headSum, 0)
	set16(l, headSum, int(net(l[headAt:endsAt])))
	at := map[byte]int{api.Udp: udpSum, api.Tcp: tcpSum}[l[23]]
	if at == 0 || len(l) < at+2 {
		return
	}
	set16(l, at, 0)
	ahead := append(slices.Clone(l[26:34]), 0, l[23], byte((len(l)-endsAt)>>8), byte(len(l)-endsAt))
	s := net(append(ahead, l[endsAt:]...))
	if s == 0 && l[23] == api.Udp {
		s = 0xFFFF
	}
	set16(l, at, int(s))
}

func set16(l []byte, at, v int) { binary.BigEndian.PutUint16(l[at:], uint16(v)) }

func get16(l []byte, at int) int { return int(binary.BigEndian.Uint16(l[at:])) }

// encodes fails unless Encode answers just these bytes, or just this error, and May agrees.
func encodes(t *testing.T, what string, f frame.Frame, want []byte, e api.Errno) {
	t.Helper()
	b, got := frame.Encode(f)
	if got != e || !bytes.Equal(b, want) {
		t.Errorf("Encode of %s: %x, %d; not %x, %d", what, b, got, want, e)
	}
	if frame.May(f) != (e == api.OK) {
		t.Errorf("May of %s: %t", what, e != api.OK)
	}
}

// refused fails unless there are no bytes of it, for this reason.
func refused(t *testing.T, what string, f frame.Frame, e api.Errno) {
	t.Helper()
	encodes(t, what, f, nil, e)
}

// good fails unless it may be and has the bytes that raw tells.
func good(t *testing.T, what string, f frame.Frame) {
	t.Helper()
	encodes(t, what, f, raw(f), api.OK)
}

func TestExample(t *testing.T) {
	b, e := frame.Encode(udp(1))
	if len(b) != 43 || e != api.OK {
		t.Error("Encode", len(b), e)
	}
}

// P5.1.

// These bytes, and the sums among them, were written by hand.
func TestEncodeByHand(t *testing.T) {
	const addresses = "0B0000000002 0A0000000001 "
	for _, c := range []struct {
		f    frame.Frame
		want string
	}{
		{plain(0x1234), "1234"},
		{plain(0x1234, 1, 2, 255), "1234 0102FF"},
		{arp(1), "0806 0001 0800 06 04 0001 0A0000000001 0A000001 0B0000000002 0A000002"},
		{arp(2), "0806 0001 0800 06 04 0002 0A0000000001 0A000001 0B0000000002 0A000002"},
		{other(1, 42), "0800 45 00 0015 0007 0000 40 01 66DF 0A000001 0A000002 2A"},
		{udp(1), "0800 45 00 001D 0007 0000 40 11 66C7 0A000001 0A000002 0005 0043 0009 EA91 01"},
		{udp(1, 0), "0800 45 00 001E 0007 0000 40 11 66C6 0A000001 0A000002 0005 0043 000A EA8F 0100"},
		{tcp(), "0800 45 00 0028 0007 0000 40 06 66C7 0A000001 0A000002 0FA0 0050 01020304 F1F2F3F4 50 18 2000 81EC 0000"},
	} {
		want, err := hex.DecodeString(strings.ReplaceAll(addresses+c.want, " ", ""))
		if err != nil {
			t.Fatal(err)
		}
		encodes(t, c.want, c.f, want, api.OK)
		parses(t, c.want, want, c.f)
	}
}

func TestEncodeEachKind(t *testing.T) {
	for i, f := range someOf() {
		good(t, strconv.Itoa(i), f)
	}
}

// Each protocol but two has neither ports nor anything else of Ends.
func TestEncodeEachProto(t *testing.T) {
	for proto := range 256 {
		good(t, strconv.Itoa(proto), other(proto, 1, 2, 3))
		f := other(proto, 1, 2, 3)
		f.Ends.Dport = 1
		if proto == api.Udp || proto == api.Tcp {
			good(t, strconv.Itoa(proto), f)
		} else {
			refused(t, strconv.Itoa(proto), f, api.ErrArg)
		}
	}
}

func TestTypes(t *testing.T) {
	for _, typ := range []int{1536, 1537, 0x07FF, 0x0801, 0x0805, 0x0807, 0x1234, 0x8100, 65534, 65535} {
		good(t, strconv.Itoa(typ), plain(typ, 1, 2, 3))
	}
	for _, typ := range []int{math.MinInt, -1, 0, 1, 46, 512, 1500, 1535, 65536, 65536 + 1536, 1<<32 + 1536, math.MaxInt} {
		refused(t, strconv.Itoa(typ), plain(typ, 1, 2, 3), api.ErrArg)
	}
	for _, more := range []int{1 << 16, 1 << 32, -1 << 16, math.MinInt} {
		a, u := arp(1), udp(1)
		a.Type += more
		u.Type += more
		refused(t, "an arp", a, api.ErrArg)
		refused(t, "an udp", u, api.ErrArg)
	}
}

// number is a field that is one.
type number struct {
	name  string
	width int // in bits
	set   func(f *frame.Frame, v uint64)
}

var anywhere = []number{
	{"Dst", 48, func(f *frame.Frame, v uint64) { f.Dst = api.Mac(v) }},
	{"Src", 48, func(f *frame.Frame, v uint64) { f.Src = api.Mac(v) }},
}

var ofArp = []number{
	{"Sha", 48, func(f *frame.Frame, v uint64) { f.Arp.Sha = api.Mac(v) }},
	{"Tha", 48, func(f *frame.Frame, v uint64) { f.Arp.Tha = api.Mac(v) }},
	{"Spa", 32, func(f *frame.Frame, v uint64) { f.Arp.Spa = api.Ip(v) }},
	{"Tpa", 32, func(f *frame.Frame, v uint64) { f.Arp.Tpa = api.Ip(v) }},
}

var ofHead = []number{
	{"Src of the Head", 32, func(f *frame.Frame, v uint64) { f.Head.Src = api.Ip(v) }},
	{"Dst of the Head", 32, func(f *frame.Frame, v uint64) { f.Head.Dst = api.Ip(v) }},
	{"Ttl", 8, func(f *frame.Frame, v uint64) { f.Head.Ttl = int(v) }},
	{"Id", 16, func(f *frame.Frame, v uint64) { f.Head.Id = int(v) }},
}

var ports = []number{
	{"Sport", 16, func(f *frame.Frame, v uint64) { f.Ends.Sport = int(v) }},
	{"Dport", 16, func(f *frame.Frame, v uint64) { f.Ends.Dport = int(v) }},
}

var ofTcp = []number{
	{"Seq", 32, func(f *frame.Frame, v uint64) { f.Ends.Seq = uint32(v) }},
	{"Ack", 32, func(f *frame.Frame, v uint64) { f.Ends.Ack = uint32(v) }},
	{"Flags", 8, func(f *frame.Frame, v uint64) { f.Ends.Flags = int(v) }},
	{"Win", 16, func(f *frame.Frame, v uint64) { f.Ends.Win = int(v) }},
}

var proto = number{"Proto", 8, func(f *frame.Frame, v uint64) { f.Head.Proto = int(v) }}

var op = number{"Op", 16, func(f *frame.Frame, v uint64) { f.Arp.Op = int(v) }}

func TestNumbersThatAKindHas(t *testing.T) {
	for _, c := range []struct {
		f    frame.Frame
		have []number
	}{
		{plain(0x1234, 1), anywhere},
		{arp(1), slices.Concat(anywhere, ofArp)},
		{other(1, 1), slices.Concat(anywhere, ofHead)},
		{udp(1), slices.Concat(anywhere, ofHead, ports)},
		{tcp(1), slices.Concat(anywhere, ofHead, ports, ofTcp)},
	} {
		for _, n := range c.have {
			edges(t, c.f, n)
		}
	}
	edges(t, other(1, 1), proto)
}

// edges holds a number to its bits: those of 32 bits can't be greater than they hold.
func edges(t *testing.T, f frame.Frame, n number) {
	t.Helper()
	most := uint64(1)<<n.width - 1
	for _, v := range []uint64{0, 1, most / 2, most - 1, most} {
		n.set(&f, v)
		good(t, n.name, f)
	}
	if n.width == 32 {
		return
	}
	for _, v := range []uint64{most + 1, most + 2, most << 1, most << 8, 1 << 62, 1 << 63, math.MaxUint64, math.MaxUint64 - most} {
		n.set(&f, v)
		refused(t, n.name, f, api.ErrArg)
	}
}

func TestOps(t *testing.T) {
	good(t, "Op 1", arp(1))
	good(t, "Op 2", arp(2))
	for _, v := range []int{0, 3, 4, -1, -2, 255, 256, 257, 65535, 65536, 65537, 1<<32 + 1, math.MinInt, math.MaxInt} {
		refused(t, "Op "+strconv.Itoa(v), arp(v), api.ErrArg)
	}
}

func TestAnArpHasNoBody(t *testing.T) {
	for _, n := range []int{1, 2, api.MaxFrame - 42, api.MaxFrame - 41, 1000, 70000} {
		f := arp(1)
		f.Body = make([]byte, n)
		refused(t, strconv.Itoa(n)+" bytes", f, api.ErrArg)
	}
	f := arp(1)
	f.Body = []byte{}
	good(t, "an empty one", f)
}

func TestFieldsThatAKindDoesNotHave(t *testing.T) {
	for _, c := range []struct {
		f    frame.Frame
		lack []number
	}{
		{plain(0x1234), slices.Concat(ofArp, ofHead, ports, ofTcp, []number{proto, op})},
		{plain(1536, 1), slices.Concat(ofArp, ofHead, ports, ofTcp, []number{proto, op})},
		{arp(1), slices.Concat(ofHead, ports, ofTcp, []number{proto})},
		{other(1), slices.Concat(ofArp, ports, ofTcp, []number{op})},
		{udp(1), slices.Concat(ofArp, ofTcp, []number{op})},
		{tcp(1), slices.Concat(ofArp, []number{op})},
	} {
		good(t, "all noughts", c.f)
		for _, n := range c.lack {
			for _, v := range []uint64{1, 2, 128, math.MaxUint64} {
				f := c.f
				n.set(&f, v)
				refused(t, n.name, f, api.ErrArg)
				f.Body = make([]byte, api.MaxFrame)
				refused(t, n.name+", too long", f, api.ErrArg)
			}
		}
	}
}

func TestLongFrames(t *testing.T) {
	for _, k := range kinds {
		if !k.bodied {
			continue
		}
		room := api.MaxFrame - k.bytes
		for _, n := range []int{0, 1, room - 1, room} {
			good(t, k.name, k.of(rising(n)...))
		}
		// Behind 65535 bytes the lengths would not fit their bits either.
		for _, n := range []int{room + 1, room + 2, 1000, 65535, 65536, 65536 + 100, 1 << 20} {
			f := k.of(make([]byte, n)...)
			refused(t, k.name, f, api.ErrLong)
			for _, wrong := range []frame.Frame{{Dst: 1 << 48}, {Src: 1 << 48}, {Type: 1 << 20}, {Arp: frame.Arp{Op: 3}}} {
				g := f
				g.Dst |= wrong.Dst
				g.Src |= wrong.Src
				g.Type |= wrong.Type
				g.Arp.Op = wrong.Arp.Op
				refused(t, k.name+", and wrong", g, api.ErrArg)
			}
		}
	}
}

// zeroSum is a frame whose last two bytes make the sum of its protocol 0.
func zeroSum(of func(body ...byte) frame.Frame, at int) frame.Frame {
	b := raw(of(1, 2, 0, 0))
	return of(1, 2, b[at], b[at+1])
}

// sumIs fails unless the frame has this sum there, on the way back too.
func sumIs(t *testing.T, what string, f frame.Frame, at, want int) {
	t.Helper()
	b, e := frame.Encode(f)
	if e != api.OK || get16(b, at) != want {
		t.Errorf("%s: %x, %d", what, b, e)
	}
	good(t, what, f)
	parses(t, what, b, f)
}

func TestAnUdpSumOf0IsFFFF(t *testing.T) { sumIs(t, "udp", zeroSum(udp, udpSum), udpSum, 0xFFFF) }

func TestATcpSumOf0Is0(t *testing.T) { sumIs(t, "tcp", zeroSum(tcp, tcpSum), tcpSum, 0) }

func zeroHead(f frame.Frame) frame.Frame {
	f.Head.Id = 0
	f.Head.Id = get16(raw(f), headSum)
	return f
}

func TestAHeadsSumOf0Is0(t *testing.T) {
	for _, f := range []frame.Frame{other(1, 1), udp(1), tcp(1)} {
		sumIs(t, "a Head", zeroHead(f), headSum, 0)
	}
}

// parts tells each field, by a frame in which it alone is not zero.
func parts() []frame.Frame {
	l := []frame.Frame{{Type: 1}, {Type: -1}, {Body: []byte{0}}, {Body: []byte{1}}, {Body: []byte{0, 0}}}
	for _, n := range slices.Concat(anywhere, ofArp, ofHead, ports, ofTcp, []number{proto, op}) {
		for _, v := range []uint64{1, 1 << 31, 1 << 47, math.MaxUint64} {
			var f frame.Frame
			n.set(&f, v)
			if !frame.Same(f, frame.Frame{}) || v < 1<<32 {
				l = append(l, f)
			}
		}
	}
	return l
}

// Frames that may not be are the same, or not, too.
func TestSameAsksForEachField(t *testing.T) {
	var zero frame.Frame
	if !frame.Same(zero, zero) {
		t.Error("two that are zero")
	}
	for i, f := range parts() {
		if !frame.Same(f, f) || frame.Same(f, zero) || frame.Same(zero, f) {
			t.Errorf("part %d: %+v", i, f)
		}
	}
	l := someOf()
	for i, a := range l {
		for k, b := range l {
			if frame.Same(a, b) != (i == k) {
				t.Errorf("%+v and %+v: %t", a, b, i != k)
			}
		}
	}
}

func TestSameOfBodies(t *testing.T) {
	none, empty := udp(), udp()
	none.Body, empty.Body = nil, []byte{}
	if !frame.Same(none, empty) || !frame.Same(empty, none) {
		t.Error("a nil list is not an empty one")
	}
	a := udp(1, 2, 3)
	for _, b := range [][]byte{nil, {1}, {1, 2}, {1, 2, 4}, {0, 2, 3}, {1, 3, 2}, {1, 2, 3, 0}, {1, 2, 3, 4}} {
		if frame.Same(a, udp(b...)) || frame.Same(udp(b...), a) {
			t.Errorf("bodies %x and %x", a.Body, b)
		}
	}
	if !frame.Same(a, udp(1, 2, 3)) {
		t.Error("the same bytes at another place")
	}
}
