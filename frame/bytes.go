package frame

import (
	"ostiary/api"
	"ostiary/bits"
	"ostiary/sum"
)

// Where the parts begin, and how long an Arp is, in bytes.
const (
	headAt   = 14
	endsAt   = headAt + 20
	headSum  = headAt + 10
	arpBytes = 28
)

// ends tells how many bytes a protocol has between the Head and the Body, and at which of them its sum stands.
func ends(proto int) (n, sumAt int) {
	switch proto {
	case api.Udp:
		return 8, 6
	case api.Tcp:
		return 20, 16
	}
	return 0, 0
}

func size(f Frame) int {
	n := headAt + len(f.Body)
	switch f.Type {
	case api.TypeArp:
		n += arpBytes
	case api.TypeIp:
		own, _ := ends(f.Head.Proto)
		n += endsAt - headAt + own
	}
	return n
}

// sums tells at which bytes sums stand.
func sums(f Frame) []int {
	if f.Type != api.TypeIp {
		return nil
	}
	own, at := ends(f.Head.Proto)
	if own == 0 {
		return []int{headSum}
	}
	return []int{headSum, endsAt + at}
}

// write takes frames that may be alone.
func write(f Frame) []byte {
	o := bits.New()
	o.Bits(48, uint64(f.Dst), uint64(f.Src))
	o.Bits(16, uint64(f.Type))
	switch f.Type {
	case api.TypeArp:
		writeArp(o, f.Arp)
	case api.TypeIp:
		writeHead(o, f.Head, size(f)-headAt)
		writeEnds(o, f.Ends, f.Head.Proto, size(f)-endsAt)
	}
	o.Bytes(f.Body)
	seal(o, f)
	return o.Done()
}

func writeArp(o *bits.Out, a Arp) {
	o.Bits(16, 1, api.TypeIp)
	o.Bits(8, 6, 4)
	o.Bits(16, uint64(a.Op))
	o.Bits(48, uint64(a.Sha))
	o.Bits(32, uint64(a.Spa))
	o.Bits(48, uint64(a.Tha))
	o.Bits(32, uint64(a.Tpa))
}

// writeHead leaves the sum to seal, and so does writeEnds.
func writeHead(o *bits.Out, h Head, length int) {
	o.Bits(4, 4, 5)
	o.Bits(8, 0)
	o.Bits(16, uint64(length), uint64(h.Id), 0)
	o.Bits(8, uint64(h.Ttl), uint64(h.Proto))
	o.Bits(16, 0)
	o.Bits(32, uint64(h.Src), uint64(h.Dst))
}

func writeEnds(o *bits.Out, e Ends, proto, length int) {
	switch proto {
	case api.Udp:
		o.Bits(16, uint64(e.Sport), uint64(e.Dport), uint64(length), 0)
	case api.Tcp:
		o.Bits(16, uint64(e.Sport), uint64(e.Dport))
		o.Bits(32, uint64(e.Seq), uint64(e.Ack))
		o.Bits(4, 5, 0)
		o.Bits(8, uint64(e.Flags))
		o.Bits(16, uint64(e.Win), 0, 0)
	}
}

// seal sets the sums, in whose places there are noughts till then.
func seal(o *bits.Out, f Frame) {
	b := o.Done()
	for _, at := range sums(f) {
		s := sum.Net(b[headAt:endsAt])
		if at != headSum {
			s = endsSum(f.Head, b[endsAt:])
		}
		o.Set(8*at, 16, uint64(s))
	}
}

// endsSum: a sum of 0 would tell of Udp that there is none.
func endsSum(h Head, b []byte) uint16 {
	o := bits.New()
	o.Bits(32, uint64(h.Src), uint64(h.Dst))
	o.Bits(8, 0, uint64(h.Proto))
	o.Bits(16, uint64(len(b)))
	s := sum.Net(o.Done(), b)
	if s == 0 && h.Proto == api.Udp {
		return 0xFFFF
	}
	return s
}

// read passes over lengths, sums and what is the same in all frames. It is false if there are too few bytes.
func read(b []byte) (Frame, bool) {
	i := bits.Of(b)
	f := Frame{Dst: mac(i), Src: mac(i), Type: int(i.Bits(16))}
	switch f.Type {
	case api.TypeArp:
		f.Arp = readArp(i)
	case api.TypeIp:
		f.Head = readHead(i)
		f.Ends = readEnds(i, f.Head.Proto)
	}
	f.Body = i.Rest()
	return f, i.Err() == api.OK
}

func readArp(i *bits.In) Arp {
	i.Skip(48)
	return Arp{Op: int(i.Bits(16)), Sha: mac(i), Spa: ip(i), Tha: mac(i), Tpa: ip(i)}
}

func readHead(i *bits.In) Head {
	var h Head
	i.Skip(32)
	h.Id = int(i.Bits(16))
	i.Skip(16)
	h.Ttl = int(i.Bits(8))
	h.Proto = int(i.Bits(8))
	i.Skip(16)
	h.Src, h.Dst = ip(i), ip(i)
	return h
}

func readEnds(i *bits.In, proto int) Ends {
	if own, _ := ends(proto); own == 0 {
		return Ends{}
	}
	e := Ends{Sport: int(i.Bits(16)), Dport: int(i.Bits(16))}
	if proto == api.Udp {
		i.Skip(32)
		return e
	}
	e.Seq, e.Ack = uint32(i.Bits(32)), uint32(i.Bits(32))
	i.Skip(8)
	e.Flags, e.Win = int(i.Bits(8)), int(i.Bits(16))
	i.Skip(32)
	return e
}

func mac(i *bits.In) api.Mac { return api.Mac(i.Bits(48)) }

func ip(i *bits.In) api.Ip { return api.Ip(i.Bits(32)) }
