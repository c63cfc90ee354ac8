package journal_test

import (
	"bytes"
	"math"
	"strings"
	"testing"

	"ostiary/api"
	"ostiary/block"
	"ostiary/journal"
)

// at is bytes that stand at a block.
type at struct {
	block int
	b     []byte
}

// made is a device with all that on it, so that it lasts.
func made(t *testing.T, n int, l ...at) *block.Device {
	t.Helper()
	d := block.New(n)
	for _, a := range l {
		lay(t, d, a.block, a.b)
	}
	return d
}

// but is bytes, one of them changed.
func but(b []byte, i int, c byte) []byte {
	b = bytes.Clone(b)
	b[i] ^= c
	return b
}

// longer is a frame that is well but for its record, which is longer than one may be.
func longer(n int) []byte { return frame(0, 0, 7, text('l', n)) }

// TestGeneration: a device's generation is the greatest one that a head tells where it belongs (P10.1).
func TestGeneration(t *testing.T) {
	const last = math.MaxUint32
	for _, c := range []struct {
		what        string
		first, next []byte // blocks 0 and 1
		gen         uint32
	}{
		{"none", nil, nil, 0},
		{"0", head(0), nil, 0},
		{"1", nil, head(1), 1},
		{"0, 1", head(0), head(1), 1},
		{"2, 1", head(2), head(1), 2},
		{"2, 3", head(2), head(3), 3},
		{"2 alone", head(2), nil, 2},
		{"10, 7", head(10), head(7), 10},
		{"256, 255", head(256), head(255), 256},
		{"last", head(2), head(last), last},
		{"last but one", head(last - 1), head(5), last - 1},
		{"odd in block 0", head(3), nil, 0},
		{"odd in block 0, odd in block 1", head(5), head(3), 3},
		{"even in block 1", nil, head(2), 0},
		{"even in block 1, even in block 0", head(2), head(4), 2},
		{"exchanged", head(1), head(2), 0},
		{"another mark", sealed(but(head(2)[:6], 0, 1)), head(1), 1},
		{"another mark still", sealed(but(head(2)[:6], 1, 0x80)), head(1), 1},
		{"another number", but(head(2), 5, 4), head(1), 1},
		{"another sum", but(head(2), 6, 1), head(1), 1},
		{"another sum still", but(head(2), 9, 0x80), head(1), 1},
		{"no sum", head(2)[:6], head(1), 1},
		{"both spoilt", but(head(2), 7, 1), but(head(1), 8, 1), 0},
		{"noughts behind", whole(head(2)), head(1), 2},
		{"something behind", append(head(2), 1), head(1), 1},
		{"something at the end", but(whole(head(3)), 63, 1), nil, 0},
		{"something behind 1", head(2), but(whole(head(3)), 30, 0x40), 2},
	} {
		d := made(t, 8, at{0, c.first}, at{1, c.next}, at{2, frame(c.gen&^1, 0, 1, []byte("even"))}, at{5, frame(c.gen|1, 0, 1, []byte("odd"))})
		t.Run(c.what, func(t *testing.T) {
			j := opened(t, d, []string{"even", "odd"}[c.gen%2])
			put(t, j, "more")
			has(t, d, 3+3*int(c.gen%2), frame(c.gen, 1, 2, []byte("more")))
			has(t, d, 0, whole(append(c.first, make([]byte, 64-len(c.first))...)))
			has(t, d, 1, whole(append(c.next, make([]byte, 64-len(c.next))...)))
		})
	}
}

// TestRecords: a bank's records are the frames that stand one behind the other, of the generation, by their numbers, with terms that don't sink (P10.1).
func TestRecords(t *testing.T) {
	ok := frame(0, 0, 5, []byte("a"))
	long := text('r', 1024)
	for _, c := range []struct {
		what string
		l    []at
		want string
	}{
		{"none", nil, ""},
		{"one", []at{{2, ok}}, "a"},
		{"not at the first block", []at{{3, ok}}, ""},
		{"two", []at{{2, ok}, {3, frame(0, 1, 5, []byte("b"))}}, "a b"},
		{"a greater term", []at{{2, ok}, {3, frame(0, 1, 9, []byte("b"))}, {4, frame(0, 2, 9, []byte("c"))}}, "a b c"},
		{"a lesser term", []at{{2, ok}, {3, frame(0, 1, 4, []byte("b"))}}, "a"},
		{"a lesser term behind a greater one", []at{{2, ok}, {3, frame(0, 1, 9, []byte("b"))}, {4, frame(0, 2, 8, []byte("c"))}}, "a b"},
		{"term 0", []at{{2, frame(0, 0, 0, []byte("a"))}, {3, frame(0, 1, 0, []byte("b"))}, {4, frame(0, 2, 1, []byte("c"))}}, "a b c"},
		{"the last term", []at{{2, frame(0, 0, math.MaxUint32, []byte("a"))}, {3, frame(0, 1, math.MaxUint32, []byte("b"))}}, "a b"},
		{"another generation", []at{{2, frame(2, 0, 5, []byte("a"))}}, ""},
		{"another generation behind", []at{{2, ok}, {3, frame(2, 1, 5, []byte("b"))}}, "a"},
		{"a generation of many bits", []at{{2, frame(1<<24, 0, 5, []byte("a"))}}, ""},
		{"another number", []at{{2, frame(0, 1, 5, []byte("a"))}}, ""},
		{"the same number", []at{{2, ok}, {3, frame(0, 0, 5, []byte("b"))}}, "a"},
		{"a number that is passed", []at{{2, ok}, {3, frame(0, 2, 5, []byte("b"))}}, "a"},
		{"a number of many bits", []at{{2, ok}, {3, frame(0, 1<<8|1, 5, []byte("b"))}}, "a"},
		{"a gap", []at{{2, ok}, {4, frame(0, 1, 5, []byte("b"))}}, "a"},
		{"another mark", []at{{2, sealed(but(ok[:16], 0, 1))}}, ""},
		{"noughts as mark", []at{{2, sealed(but(ok[:16], 0, 0xA5))}}, ""},
		{"another sum", []at{{2, but(ok, 16, 1)}}, ""},
		{"another sum still", []at{{2, but(ok, 19, 0x80)}}, ""},
		{"another byte", []at{{2, but(ok, 15, 1)}}, ""},
		{"another length", []at{{2, but(ok, 14, 1)}}, ""},
		{"something behind", []at{{2, append(bytes.Clone(ok), text(9, 64-len(ok))...)}, {3, frame(0, 1, 5, []byte("b"))}}, "a b"},
		{"something behind a record of two blocks", []at{{2, append(frame(0, 0, 5, text('x', 46)), 1)}, {4, frame(0, 1, 5, []byte("b"))}}, strings.Repeat("x", 46) + " b"},
		{"within its blocks", []at{{2, append(frame(0, 0, 5, text('x', 60)), 1)}, {3, frame(0, 1, 5, []byte("b"))}}, ""},
		{"up to the end of a block", []at{{2, frame(0, 0, 5, text('x', 45))}, {3, frame(0, 1, 5, text('y', 45))}}, strings.Repeat("x", 45) + " " + strings.Repeat("y", 45)},
		{"the longest", []at{{2, frame(0, 0, 5, long)}, {19, frame(0, 1, 5, []byte("b"))}}, string(long) + " b"},
		{"longer by one", []at{{2, longer(1025)}}, ""},
		{"longer by a block", []at{{2, longer(1069)}}, ""},
		{"longer by several", []at{{2, longer(1200)}}, ""},
		{"longer behind one", []at{{2, frame(0, 0, 5, []byte("a"))}, {3, frame(0, 1, 5, text('l', 1025))}}, "a"},
	} {
		t.Run(c.what, func(t *testing.T) {
			d := made(t, 2+2*20, c.l...)
			l := strings.Fields(c.want)
			j := opened(t, d, l...)
			blocks := 0
			for _, b := range l {
				blocks += journal.Need(len(b))
			}
			is(t, j, len(l), 20-blocks)
			noughts(t, d, 2+blocks, 20-blocks)
			put(t, j, "next")
			j = opened(t, d, append(l, "next")...)
			is(t, j, len(l)+1, 19-blocks)
		})
	}
}

// TestEmpty: a record of no bytes is one.
func TestEmpty(t *testing.T) {
	d := made(t, 8, at{2, frame(0, 0, 1, nil)}, at{3, frame(0, 1, 1, nil)})
	is(t, opened(t, d, "", ""), 2, 1)
}

// TestEnd: a frame that goes beyond its bank stands nowhere (P10.1).
func TestEnd(t *testing.T) {
	b := frame(0, 0, 5, text('x', 100)) // two blocks, of banks of three
	is(t, opened(t, made(t, 8, at{2, b}), strings.Repeat("x", 100)), 1, 1)
	one := frame(0, 0, 1, nil)
	b = frame(0, 1, 5, text('x', 100))
	is(t, opened(t, made(t, 8, at{2, one}, at{3, b}), "", strings.Repeat("x", 100)), 2, 0)
	b = frame(0, 2, 5, text('x', 100))
	d := made(t, 8, at{2, one}, at{3, frame(0, 1, 1, nil)}, at{4, b})
	is(t, opened(t, d, "", ""), 2, 1)
	has(t, d, 5, b[64:]) // that is the other bank's
	noughts(t, d, 4, 1)

	b = frame(1, 0, 5, text('x', 64*3-19)) // all of bank 1
	is(t, opened(t, made(t, 8, at{1, head(1)}, at{5, b}), strings.Repeat("x", 64*3-19)), 1, 0)
	b = frame(1, 0, 5, text('x', 64*3-18)) // and a byte of a block that is no bank's
	is(t, opened(t, made(t, 9, at{1, head(1)}, at{5, b})), 0, 3)
	is(t, opened(t, made(t, 8, at{1, head(1)}, at{5, b[:192]})), 0, 3)
}

// TestTerm: a journal's term is above that of each frame that stands anywhere in a bank, whatever else it tells (P10.1).
func TestTerm(t *testing.T) {
	const last = math.MaxUint32
	two := frame(0, 0, 30, text('x', 100))
	for _, c := range []struct {
		what string
		l    []at
		term uint32
	}{
		{"none", nil, 1},
		{"term 0", []at{{8, frame(3, 3, 0, nil)}}, 1},
		{"a record", []at{{2, frame(0, 0, 5, nil)}}, 6},
		{"the greatest of two records", []at{{2, frame(0, 0, 5, nil)}, {3, frame(0, 1, 8, nil)}}, 9},
		{"behind the records", []at{{2, frame(0, 0, 5, nil)}, {5, frame(0, 7, 20, nil)}}, 21},
		{"of another generation", []at{{4, frame(9, 1, 20, nil)}}, 21},
		{"a lesser term behind the records", []at{{2, frame(0, 0, 5, nil)}, {3, frame(0, 1, 4, nil)}}, 6},
		{"the bank's last block", []at{{7, frame(0, 1, 20, nil)}}, 21},
		{"the other bank's first block", []at{{8, frame(1, 0, 20, nil)}}, 21},
		{"the other bank's last block", []at{{13, frame(1, 0, 20, nil)}}, 21},
		{"of the bank, the other one's less", []at{{7, frame(0, 1, 20, nil)}, {9, frame(0, 1, 19, nil)}}, 21},
		{"a block that is no bank's", []at{{14, frame(1, 0, 20, nil)}}, 1},
		{"in a head's block", []at{{0, frame(0, 0, 20, nil)}, {1, frame(0, 0, 20, nil)}}, 1},
		{"two blocks", []at{{6, two}}, 31},
		{"two blocks of the other bank", []at{{12, two}}, 31},
		{"beyond the bank", []at{{7, two}}, 1},
		{"beyond the other bank", []at{{13, two}}, 1},
		{"in the midst of a record", []at{{2, frame(0, 0, 5, append(text('x', 49), frame(0, 0, 40, nil)...))}}, 41},
		{"not at a block", []at{{3, append([]byte{0}, frame(0, 0, 40, nil)...)}}, 1},
		{"another sum", []at{{3, but(frame(0, 0, 40, nil), 12, 1)}}, 1},
		{"another mark", []at{{3, sealed(but(frame(0, 0, 40, nil)[:15], 0, 4))}}, 1},
		{"something behind", []at{{3, append(frame(0, 0, 40, nil), 7)}}, 41},
		{"many bits", []at{{3, frame(0, 0, 0x01020304, nil)}}, 0x01020305},
		{"the last but one", []at{{3, frame(0, 0, last-1, nil)}}, last},
		{"the last", []at{{3, frame(0, 0, last, nil)}}, last},
		{"the last and a lesser one", []at{{3, frame(0, 0, last, nil)}, {4, frame(0, 0, 3, nil)}}, last},
	} {
		t.Run(c.what, func(t *testing.T) {
			d := made(t, 15, c.l...)
			j, _, e := journal.Open(d)
			want(t, "Open", e, api.OK)
			n, free := uint32(j.Len()), 8-j.Room()
			put(t, j, "new")
			has(t, d, free, frame(0, n, c.term, []byte("new")))
			want(t, "Renew", j.Renew(nil, nil), api.OK) // it keeps its term
			has(t, d, 8, frame(1, 0, c.term, nil))
			has(t, d, 9, frame(1, 1, c.term, nil))
			put(t, j, "newer")
			has(t, d, 10, frame(1, 2, c.term, []byte("newer")))
		})
	}
}

// TestTermLong: a frame that is too long tells no term, in what a bank has room for.
func TestTermLong(t *testing.T) {
	for _, c := range []struct {
		n    int
		term uint32
	}{{1024, 8}, {1025, 1}, {1069, 1}, {1070, 1}, {1200, 1}} {
		d := made(t, 2+2*30, at{33, longer(c.n)})
		put(t, opened(t, d), "a")
		has(t, d, 2, frame(0, 0, c.term, []byte("a")))
	}
}

// TestWipe: what stands behind the records is made noughts, block by block, where it is not, and that is synced (P10.1).
func TestWipe(t *testing.T) {
	fill := func(t *testing.T) *block.Device {
		return made(t, 14, at{2, frame(0, 0, 1, []byte("a"))}, at{3, text(9, 1)}, at{5, append(make([]byte, 63), 9)}, at{7, text(9, 64)}, at{8, text(7, 64*6)})
	}
	d := fill(t)
	is(t, opened(t, d, "a"), 1, 5)
	if d.Pending() != 0 {
		t.Error("not synced")
	}
	noughts(t, d, 0, 2)
	has(t, d, 2, frame(0, 0, 1, []byte("a")))
	noughts(t, d, 3, 5)
	has(t, d, 8, text(7, 64*6))

	wiped := []int{3, 5, 7}
	for acts := 1; acts <= 4; acts++ { // three writes, a Sync
		d := fill(t)
		before := image(d)
		d.Arm(acts, 64)
		closed(t, d, api.ErrDown)
		d.On()
		for i := range d.Len() {
			b := before[64*i : 64*i+64]
			for _, k := range wiped[:acts-1] {
				if k == i {
					b = make([]byte, 64)
				}
			}
			has(t, d, i, b)
		}
	}
	d = fill(t)
	d.Arm(5)
	j := opened(t, d, "a")
	want(t, "Append", j.Append(nil), api.ErrDown)
}

// TestNoWipe: where there are but noughts nothing is written, nor synced (P10.1).
func TestNoWipe(t *testing.T) {
	d := block.New(10)
	d.Arm(1)
	opened(t, d)
	d.On()
	put(t, opened(t, d), "a")
	d.Arm(1, 64)
	j := opened(t, d, "a")
	if d.Pending() != 1 {
		t.Error("Open synced what was pending, with nothing to wipe")
	}
	want(t, "Append", j.Append(nil), api.ErrDown)
	d.On()
	opened(t, d, "a")
}
