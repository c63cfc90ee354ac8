package journal_test

import (
	"bytes"
	"fmt"
	"math"
	"slices"
	"strings"
	"testing"

	"ostiary/api"
	"ostiary/block"
	"ostiary/journal"
)

// list is records as Renew takes them.
func list(l ...string) [][]byte {
	var out [][]byte
	for _, s := range l {
		out = append(out, []byte(s))
	}
	return out
}

// TestRenew: just these records are there, in the other bank, and last; others can be put behind them (P10.3).
func TestRenew(t *testing.T) {
	long := strings.Repeat("l", 120)
	d := block.New(16)
	j := opened(t, d)
	put(t, j, "a", "b", "c")

	want(t, "Renew", j.Renew(list("p", long)...), api.OK)
	is(t, j, 2, 3)
	if d.Pending() != 0 {
		t.Error("not synced")
	}
	noughts(t, d, 0, 1)
	has(t, d, 1, head(1))
	has(t, d, 2, frame(0, 0, 1, []byte("a")))
	has(t, d, 3, frame(0, 1, 1, []byte("b")))
	has(t, d, 4, frame(0, 2, 1, []byte("c")))
	noughts(t, d, 5, 4)
	has(t, d, 9, frame(1, 0, 1, []byte("p")))
	has(t, d, 10, frame(1, 1, 1, []byte(long)))
	noughts(t, d, 13, 3)

	put(t, j, "q")
	is(t, j, 3, 2)
	has(t, d, 13, frame(1, 2, 1, []byte("q")))
	opened(t, d, "p", long, "q")

	want(t, "Renew", j.Renew(), api.OK)
	is(t, j, 0, 7)
	has(t, d, 0, head(2))
	has(t, d, 1, head(1))
	noughts(t, d, 2, 7)
	put(t, j, "r")
	has(t, d, 2, frame(2, 0, 1, []byte("r")))
	j = opened(t, d, "r")
	want(t, "Renew", j.Renew(list("", "", "", "", "", "", "")...), api.OK)
	is(t, j, 7, 0)
	has(t, d, 1, head(3))
	has(t, d, 9, frame(3, 0, 2, nil))
	has(t, d, 15, frame(3, 6, 2, nil))
	opened(t, d, "", "", "", "", "", "", "")
}

// TestRenewOften: generations go up one by one, in one bank and the other by turns.
func TestRenewOften(t *testing.T) {
	d := block.New(11)
	j := opened(t, d)
	for i := range 20 {
		a, b := fmt.Sprint("a", i), fmt.Sprint("b", i)
		want(t, "Renew", j.Renew(list(a, b)...), api.OK)
		is(t, j, 2, 2)
		put(t, j, "c")
		has(t, d, (i+1)%2, head(uint32(i+1)))
		if i%3 == 1 {
			j = opened(t, d, a, b, "c")
		}
	}
}

// TestRenewFull: all of a bank can be filled, and no more (P10.3).
func TestRenewFull(t *testing.T) {
	d := block.New(8)
	j := opened(t, d)
	put(t, j, "a", "b") // its own room does not count
	for _, l := range [][]string{{"", "", "", ""}, {strings.Repeat("x", 46), strings.Repeat("y", 46)}, {"", strings.Repeat("x", 110)}, {strings.Repeat("x", 174)}} {
		want(t, "Renew", j.Renew(list(l...)...), api.ErrFull)
		is(t, j, 2, 1)
		noughts(t, d, 0, 2)
		noughts(t, d, 5, 3)
	}
	for _, l := range [][]string{{"", "", ""}, {"", strings.Repeat("x", 109)}, {strings.Repeat("x", 173)}} {
		want(t, "Renew", j.Renew(list(l...)...), api.OK)
		is(t, j, len(l), 0)
		j = opened(t, d, l...)
	}
}

// TestLastGeneration: behind the last generation there is none (P10.3).
func TestLastGeneration(t *testing.T) {
	const last = math.MaxUint32
	d := made(t, 8, at{0, head(last - 1)}, at{2, frame(last-1, 0, 9, []byte("a"))})
	j := opened(t, d, "a")
	want(t, "Renew", j.Renew([]byte("b")), api.OK)
	has(t, d, 1, head(last))
	has(t, d, 5, frame(last, 0, 10, []byte("b")))
	b := image(d)
	want(t, "Renew", j.Renew([]byte("c")), api.ErrFull)
	want(t, "Renew", j.Renew(), api.ErrFull)
	want(t, "Renew", j.Renew(text('c', 1025)), api.ErrLong)
	if !bytes.Equal(b, image(d)) {
		t.Error("what was refused wrote")
	}
	put(t, j, "d")
	j = opened(t, d, "b", "d")
	want(t, "Renew", j.Renew(), api.ErrFull)
	is(t, j, 2, 1)
}

// used is a journal whose other bank is not all noughts, and whose first heads are there, and what it has.
func used(t *testing.T) (*block.Device, *journal.Journal, []string) {
	t.Helper()
	d := made(t, 14, at{9, []byte{1}}, at{12, text(2, 64)})
	j := opened(t, d)
	put(t, j, "a", "b")
	want(t, "Sync", j.Sync(), api.OK)
	return d, j, []string{"a", "b"}
}

// TestRenewSteps: it does just this, in this order: the other bank is wiped, synced, written, synced, and then the head, synced (P10.3).
func TestRenewSteps(t *testing.T) {
	long := strings.Repeat("n", 50)
	l := list("m", long)
	type step struct {
		at int // the block that is written; below 0, a Sync
		b  []byte
	}
	n := frame(1, 1, 1, []byte(long))
	steps := []step{{9, nil}, {12, nil}, {-1, nil}, {8, frame(1, 0, 1, []byte("m"))}, {9, n[:64]}, {10, n[64:]}, {-1, nil}, {1, head(1)}, {-1, nil}}
	for _, keep := range []int{0, 64} { // with 0 what was synced is seen, with 64 what was written
		for acts := 1; acts <= len(steps)+1; acts++ {
			d, j, had := used(t)
			now := image(d)
			lasts := bytes.Clone(now)
			for _, s := range steps[:acts-1] {
				if s.at < 0 {
					lasts = bytes.Clone(now)
				} else {
					copy(now[64*s.at:], append(bytes.Clone(s.b), make([]byte, 64-len(s.b))...))
				}
			}
			if keep == 64 {
				lasts = now
			}
			d.Arm(acts, keep)
			e := j.Renew(l...)
			if acts > len(steps) {
				want(t, "Renew", e, api.OK)
				is(t, j, 2, 3)
				if !bytes.Equal(image(d), lasts) || d.Pending() != 0 {
					t.Error("what is there is not what was to be written")
				}
				continue
			}
			want(t, "Renew", e, api.ErrDown)
			is(t, j, 2, 4)
			want(t, "Sync", j.Sync(), api.ErrDown)
			d.On()
			if !bytes.Equal(image(d), lasts) {
				t.Errorf("keep %d, act %d: what lasts is not what was to be written", keep, acts)
			}
			if keep == 64 && acts == len(steps) {
				had = []string{"m", long}
			}
			opened(t, d, had...)
		}
	}
}

// TestRenewNothing: with no records, and nothing to wipe, the head is all that is written; it lasts behind what is ahead of it.
func TestRenewNothing(t *testing.T) {
	d := block.New(8)
	j := opened(t, d)
	put(t, j, "a")
	d.Arm(2, 64) // a Sync of what is ahead of the head; the head
	want(t, "Renew", j.Renew(), api.ErrDown)
	d.On()
	noughts(t, d, 0, 2)
	opened(t, d, "a")
	d.Arm(4)
	j = opened(t, d, "a")
	want(t, "Renew", j.Renew(), api.OK)
	want(t, "Append", j.Append(nil), api.ErrDown)
	d.On()
	opened(t, d)
}

// TestTornHead: whatever part of a head is written, there are the records of before, or the new ones (P10.4).
func TestTornHead(t *testing.T) {
	for torn := range 65 {
		d, j, _ := used(t)
		want(t, "Renew", j.Renew([]byte("of 1")), api.OK)
		want(t, "Renew", j.Renew([]byte("of 2")), api.OK)
		for acts := 1; ; acts++ {
			d.Arm(acts, torn)
			e := j.Renew([]byte("of 3"))
			d.Arm(0)
			if e == api.OK {
				opened(t, d, "of 3")
				break
			}
			d.On()
			_, l, _ := journal.Open(d)
			if len(l) != 1 || string(l[0]) != "of 2" && (string(l[0]) != "of 3" || torn < 10) {
				t.Fatalf("act %d, %d bytes: %q", acts, torn, l)
			}
			if string(l[0]) == "of 3" {
				break
			}
			j = opened(t, d, "of 2")
		}
	}
}

// TestRenewLongest: the longest record is none that is too long.
func TestRenewLongest(t *testing.T) {
	long := strings.Repeat("l", 1024)
	d := block.New(2 + 2*35)
	j := opened(t, d)
	want(t, "Renew", j.Renew(list(long, "a", long)...), api.OK)
	is(t, j, 3, 0)
	want(t, "Renew", j.Renew(list(long, long+"l")...), api.ErrLong)
	want(t, "Renew", j.Renew(list(long+"l", "a")...), api.ErrLong)
	opened(t, d, long, "a", long)
}

// TestRenewList: a list with nothing in it is one of no records; records of nothing are records.
func TestRenewList(t *testing.T) {
	d := block.New(12)
	j := opened(t, d)
	put(t, j, "a")
	want(t, "Renew", j.Renew([][]byte{nil, {}}...), api.OK)
	j = opened(t, d, "", "")
	want(t, "Renew", j.Renew([][]byte(nil)...), api.OK)
	j = opened(t, d)
	l := list("x", "y")
	want(t, "Renew", j.Renew(l...), api.OK)
	if !slices.EqualFunc(l, list("x", "y"), bytes.Equal) {
		t.Error("the list was changed")
	}
	l[0][0] = 'z'
	opened(t, d, "x", "y")
}
