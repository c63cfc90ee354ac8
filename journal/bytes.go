package journal

import (
	"bytes"

	"ostiary/api"
	"ostiary/bits"
	"ostiary/block"
	"ostiary/sum"
)

// What heads and frames begin with, and how many bytes a frame has beside the record's.
const (
	headMark  = 0x4F4A
	frameMark = 0xA5
	beside    = 19
)

// frame is a record and what stands around it.
type frame struct {
	gen, number, term uint32
	record            []byte
}

func (f frame) bytes() []byte {
	o := bits.New()
	o.Bits(8, frameMark)
	o.Bits(32, uint64(f.gen), uint64(f.number), uint64(f.term))
	o.Bits(16, uint64(len(f.record)))
	o.Bytes(f.record)
	o.Bits(32, uint64(sum.Crc(o.Done())))
	return o.Done()
}

// reader reads bytes that have a sum behind them.
type reader struct {
	*bits.In
	all []byte
}

// fits reads the sum: is it that of all that was read ahead of it?
func (r reader) fits() bool {
	want := sum.Crc(r.all[:r.At()/8])
	return r.Bits(32) == uint64(want) && r.Err() == api.OK
}

// frameAt: the one that stands at a block of a bank, if one does and lies within the bank. It looks no further than the longest one goes.
func frameAt(all []byte, at int) (frame, bool) {
	b := all[at*block.Size : min((at+Need(MostRecord))*block.Size, len(all))]
	r := reader{bits.Of(b), b}
	if r.Bits(8) != frameMark {
		return frame{}, false
	}
	f := frame{gen: uint32(r.Bits(32)), number: uint32(r.Bits(32)), term: uint32(r.Bits(32))}
	n := int(r.Bits(16))
	if n > MostRecord {
		return frame{}, false
	}
	f.record = r.Bytes(n)
	if !r.fits() {
		return frame{}, false
	}
	return f, true
}

// greatest: the greatest term of a frame that stands at any block of a bank, 0 if none does.
func greatest(all []byte) uint32 {
	var most uint32
	for at := range len(all) / block.Size {
		if f, ok := frameAt(all, at); ok {
			most = max(most, f.term)
		}
	}
	return most
}

// headBytes: a whole block, so that what is read can be held against it.
func headBytes(gen uint32) []byte {
	o := bits.New()
	o.Bits(16, headMark)
	o.Bits(32, uint64(gen))
	o.Bits(32, uint64(sum.Crc(o.Done())))
	o.Bytes(make([]byte, block.Size-o.Len()/8))
	return o.Done()
}

// readHead: the generation that a block tells, if the block is a head: noughts stand behind its sum.
func readHead(b []byte) (uint32, bool) {
	i := bits.Of(b)
	i.Skip(16)
	gen := uint32(i.Bits(32))
	return gen, bytes.Equal(b, headBytes(gen))
}
