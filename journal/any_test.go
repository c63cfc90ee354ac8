package journal_test

import (
	"bytes"
	"encoding/binary"
	"hash/crc32"
	"math"
	"math/rand"
	"testing"

	"ostiary/api"
	"ostiary/block"
	"ostiary/journal"
)

// sealedAt: do n bytes stand ahead of a sum that fits?
func sealedAt(b []byte, n int) bool {
	return len(b) >= n+4 && binary.BigEndian.Uint32(b[n:]) == crc32.ChecksumIEEE(b[:n])
}

// standing is the frame that stands at the first of some bytes, as the chapter tells it.
func standing(b []byte) (gen, number, term uint32, record []byte, ok bool) {
	if len(b) < 19 || b[0] != 0xA5 {
		return
	}
	n := int(binary.BigEndian.Uint16(b[13:]))
	if n > 1024 || !sealedAt(b, 15+n) {
		return
	}
	return binary.BigEndian.Uint32(b[1:]), binary.BigEndian.Uint32(b[5:]), binary.BigEndian.Uint32(b[9:]), b[15 : 15+n], true
}

// known is what the chapter says of a device that is opened.
type known struct {
	gen, term uint32
	records   [][]byte
	from, to  int // the blocks of its bank behind its records
}

func look(img []byte) known {
	var k known
	for i := range 2 {
		b := img[64*i : 64*i+64]
		gen := binary.BigEndian.Uint32(b[2:])
		if b[0] == 0x4F && b[1] == 0x4A && sealedAt(b, 6) && bytes.Count(b[10:], []byte{0}) == 54 && int(gen%2) == i && gen > k.gen {
			k.gen = gen
		}
	}
	h := (len(img)/64 - 2) / 2
	greatest := uint32(0)
	for at := 2; at < 2+2*h; at++ {
		end := 2 + h
		if at >= end {
			end += h
		}
		if _, _, term, _, ok := standing(img[64*at : 64*end]); ok {
			greatest = max(greatest, term)
		}
	}
	k.term = uint32(min(uint64(greatest)+1, math.MaxUint32))
	k.from = 2 + h*int(k.gen%2)
	k.to = k.from + h
	for last := uint32(0); ; {
		gen, number, term, b, ok := standing(img[64*k.from : 64*k.to])
		if !ok || gen != k.gen || number != uint32(len(k.records)) || term < last {
			return k
		}
		last = term
		k.records = append(k.records, b)
		k.from += (len(b) + 19 + 63) / 64
	}
}

// spoil writes over some bytes of a device: noise, a frame, a head, a block of another place.
func spoil(r *rand.Rand, img []byte) {
	n := len(img) / 64
	i := r.Intn(n)
	switch r.Intn(6) {
	case 0:
		img[r.Intn(len(img))] ^= 1 << r.Intn(8)
	case 1:
		copy(img[64*i:], img[64*r.Intn(n):][:64])
	case 2:
		copy(img[64*i:], make([]byte, 64))
	case 3:
		copy(img[64*r.Intn(2):], head(uint32(r.Intn(6))))
	case 4:
		copy(img[64*i:], frame(uint32(r.Intn(4)), uint32(r.Intn(4)), uint32(r.Intn(9)), record(r)))
	case 5:
		copy(img[r.Intn(len(img)):], []byte{0xA5, 0x4F, 0x4A}[r.Intn(3):])
	}
}

// TestAnyDevice: whatever a device has, it is opened as the chapter says, and what is behind its records is wiped (P10.1, P1).
func TestAnyDevice(t *testing.T) {
	r := rand.New(rand.NewSource(101))
	for range 1500 {
		d := block.New(4 + r.Intn(30))
		j := opened(t, d)
		var p promise
		for range r.Intn(12) {
			p, _ = p.use(t, r, j)
		}
		img := image(d)
		for range r.Intn(8) {
			spoil(r, img)
		}
		lay(t, d, 0, img)

		k := look(img)
		j, l, e := journal.Open(d)
		if e != api.OK || !(promise{sure: k.records}).keeps(l) {
			t.Fatalf("Open: %d, %q, want %q", e, l, k.records)
		}
		is(t, j, len(k.records), k.to-k.from)
		if d.Pending() != 0 {
			t.Error("not synced")
		}
		copy(img[64*k.from:64*k.to], make([]byte, len(img)))
		if j.Room() > 0 {
			put(t, j, "new")
			copy(img[64*k.from:], frame(k.gen, uint32(len(l)), k.term, []byte("new")))
		}
		if !bytes.Equal(image(d), img) {
			t.Fatal("what is there is not what was to be there")
		}
	}
}

// TestNoise: bytes of any kind are no records, and Open ends.
func TestNoise(t *testing.T) {
	r := rand.New(rand.NewSource(1))
	for n := 4; n <= 512; n += 1 + n/4 {
		d := block.New(n)
		img := make([]byte, 64*n)
		r.Read(img)
		for i := range n {
			img[64*i] = 0xA5
		}
		lay(t, d, 0, img)
		is(t, opened(t, d), 0, (n-2)/2)
		noughts(t, d, 2, (n-2)/2)
	}
}
