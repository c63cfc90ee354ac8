package journal_test

import (
	"bytes"
	"math/rand"
	"testing"

	"ostiary/api"
	"ostiary/block"
	"ostiary/journal"
)

// promise is what a device may have when it is opened again.
type promise struct {
	sure  [][]byte // those that were there at the last Sync or Renew that was OK
	maybe [][]byte // those that were appended since
	anew  [][]byte // those of a Renew that was not OK
	tried bool     // was there one?
}

// keeps: are these records as promised?
func (p promise) keeps(l [][]byte) bool {
	same := func(a, b [][]byte) bool {
		if len(a) != len(b) {
			return false
		}
		for i := range a {
			if !bytes.Equal(a[i], b[i]) {
				return false
			}
		}
		return true
	}
	if p.tried && same(l, p.anew) {
		return true
	}
	all := append(p.sure[:len(p.sure):len(p.sure)], p.maybe...)
	return len(l) >= len(p.sure) && len(l) <= len(all) && same(l, all[:len(l)])
}

// record is one of any length, now and then one that has a frame in its midst, at a block's place.
func record(r *rand.Rand) []byte {
	n := r.Intn(60)
	if r.Intn(4) == 0 {
		n = r.Intn(300)
	}
	b := make([]byte, n)
	r.Read(b)
	if r.Intn(6) == 0 {
		b = append(make([]byte, 64-15), frame(uint32(r.Intn(6)), uint32(r.Intn(6)), uint32(r.Intn(50)), b)...)
	}
	return b
}

// keeping is how much of each pending write is kept when the power goes.
func keeping(r *rand.Rand) []int {
	l := make([]int, r.Intn(6))
	for i := range l {
		switch r.Intn(3) {
		case 0:
			l[i] = 64
		case 1:
			l[i] = r.Intn(65)
		}
	}
	return l
}

// use does something with a journal, and tells what may be there behind it.
func (p promise) use(t *testing.T, r *rand.Rand, j *journal.Journal) (promise, api.Errno) {
	records, room := j.Len(), j.Room()
	var e api.Errno
	switch k := r.Intn(20); {
	case k < 13:
		b := record(r)
		if e = j.Append(b); e == api.OK || e == api.ErrDown {
			p.maybe = append(p.maybe[:len(p.maybe):len(p.maybe)], b)
		}
	case k < 17:
		if e = j.Sync(); e == api.OK {
			p = promise{sure: append(p.sure[:len(p.sure):len(p.sure)], p.maybe...)}
		}
	default:
		l := make([][]byte, r.Intn(5))
		for i := range l {
			l[i] = record(r)
		}
		if e = j.Renew(l...); e == api.OK {
			p = promise{sure: l}
		} else if e == api.ErrDown {
			p.anew, p.tried = l, true
		}
	}
	if e != api.OK && (j.Len() != records || j.Room() != room) {
		t.Fatal("what was refused changed something")
	}
	return p, e
}

// TestLasts: wherever the power goes, what was synced is there, and behind it some of what was appended since; so it is time and again on one device (P10.4).
func TestLasts(t *testing.T) {
	r := rand.New(rand.NewSource(104))
	for range 400 {
		d := block.New(4 + r.Intn(60))
		var p promise
		for range 12 {
			j, l, e := journal.Open(d)
			if e != api.OK || !p.keeps(l) {
				t.Fatalf("Open: %d, %q, want %q, then some of %q, or %v %q", e, l, p.sure, p.maybe, p.tried, p.anew)
			}
			p = promise{sure: l} // nothing is pending: what Open told lasts
			if r.Intn(2) == 0 {
				d.Arm(1+r.Intn(25), keeping(r)...)
			}
			for range r.Intn(20) {
				p, e = p.use(t, r, j)
				if e == api.ErrDown {
					break
				}
			}
			d.Off(keeping(r)...) // if it is not off already
			d.On()
		}
	}
}

// TestNotRead: what is appended while the power is off, or behind a loss of it, is not there.
func TestNotRead(t *testing.T) {
	d := block.New(20)
	j := opened(t, d)
	put(t, j, "a")
	want(t, "Sync", j.Sync(), api.OK)
	put(t, j, "b")
	d.Off() // b is lost
	want(t, "Append", j.Append([]byte("c")), api.ErrDown)
	d.On()
	want(t, "Append", j.Append([]byte("d")), api.ErrDown)
	j = opened(t, d, "a")
	put(t, j, "e")
	want(t, "Sync", j.Sync(), api.OK)
	d.Off()
	d.On()
	opened(t, d, "a", "e")
}

// TestOutOfOrder: a record that reached the device while one ahead of it did not is gone for good, whatever comes in its way (P10.4).
func TestOutOfOrder(t *testing.T) {
	d := block.New(20)
	j := opened(t, d)
	put(t, j, "a", "b", "c")
	d.Off(64, 0, 64)
	d.On()
	has(t, d, 4, frame(0, 2, 1, []byte("c")))
	j = opened(t, d, "a")
	noughts(t, d, 3, 17)
	put(t, j, "d")
	has(t, d, 3, frame(0, 1, 2, []byte("d")))
	want(t, "Sync", j.Sync(), api.OK)
	d.Off()
	d.On()
	opened(t, d, "a", "d")
}

// TestTermOfWiped: the term is above what Open wipes, too.
func TestTermOfWiped(t *testing.T) {
	d := block.New(20)
	j := opened(t, d)
	put(t, j, "a", "b")
	d.Off(0, 64)
	d.On()
	j = opened(t, d)
	put(t, j, "c")
	has(t, d, 2, frame(0, 0, 2, []byte("c")))
}
