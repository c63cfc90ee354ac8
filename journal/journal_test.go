package journal_test

import (
	"bytes"
	"encoding/binary"
	"encoding/hex"
	"hash/crc32"
	"math"
	"strings"
	"testing"

	"ostiary/api"
	"ostiary/block"
	"ostiary/journal"
)

// frame is the bytes of a record's frame, as the chapter tells them, without the noughts behind.
func frame(gen, number, term uint32, b []byte) []byte {
	l := binary.BigEndian.AppendUint32([]byte{0xA5}, gen)
	l = binary.BigEndian.AppendUint32(l, number)
	l = binary.BigEndian.AppendUint32(l, term)
	l = binary.BigEndian.AppendUint16(l, uint16(len(b)))
	return sealed(append(l, b...))
}

// head is a head's bytes, without the noughts behind.
func head(gen uint32) []byte {
	return sealed(binary.BigEndian.AppendUint32([]byte{0x4F, 0x4A}, gen))
}

// sealed: with their sum behind.
func sealed(b []byte) []byte { return binary.BigEndian.AppendUint32(b, crc32.ChecksumIEEE(b)) }

// text is n bytes that are all the same.
func text(c byte, n int) []byte { return bytes.Repeat([]byte{c}, n) }

// whole is bytes and noughts up to a whole block.
func whole(b []byte) []byte { return append(b, make([]byte, (64-len(b)%64)%64)...) }

// lay puts bytes into a device's blocks from one on, so that they last.
func lay(t *testing.T, d *block.Device, at int, b []byte) {
	t.Helper()
	for ; len(b) > 0; at++ {
		n := min(len(b), block.Size)
		if e := d.Write(at, b[:n]); e != api.OK {
			t.Fatalf("Write(%d): %d", at, e)
		}
		b = b[n:]
	}
	want(t, "the device's Sync", d.Sync(), api.OK)
}

// has fails unless from a block on there are these bytes, and noughts up to a whole block.
func has(t *testing.T, d *block.Device, at int, b []byte) {
	t.Helper()
	for b = whole(bytes.Clone(b)); len(b) > 0; at, b = at+1, b[64:] {
		if got, e := d.Read(at); e != api.OK || !bytes.Equal(got, b[:64]) {
			t.Errorf("block %d: %x, %d, want %x", at, got, e, b[:64])
		}
	}
}

// noughts fails unless there are just these in so many blocks.
func noughts(t *testing.T, d *block.Device, at, n int) {
	t.Helper()
	has(t, d, at, make([]byte, 64*n))
}

// image is all of a device.
func image(d *block.Device) []byte {
	var l []byte
	for i := range d.Len() {
		b, _ := d.Read(i)
		l = append(l, b...)
	}
	return l
}

func want(t *testing.T, what string, got, e api.Errno) {
	t.Helper()
	if got != e {
		t.Errorf("%s: %d, want %d", what, got, e)
	}
}

// is fails unless the journal has so many records, and room for so many blocks.
func is(t *testing.T, j *journal.Journal, records, room int) {
	t.Helper()
	if j.Len() != records || j.Room() != room {
		t.Errorf("%d records, room %d; want %d, %d", j.Len(), j.Room(), records, room)
	}
}

// opened fails unless a device is opened, and has just these records.
func opened(t *testing.T, d *block.Device, l ...string) *journal.Journal {
	t.Helper()
	j, got, e := journal.Open(d)
	if e != api.OK || j == nil {
		t.Fatal("Open:", e)
	}
	if len(got) != len(l) || j.Len() != len(l) {
		t.Fatalf("%d records, Len %d, want %d", len(got), j.Len(), len(l))
	}
	for i, b := range got {
		if string(b) != l[i] {
			t.Errorf("record %d: %q, want %q", i, b, l[i])
		}
	}
	return j
}

// closed fails unless a device is refused so, and nothing else is answered.
func closed(t *testing.T, d *block.Device, e api.Errno) {
	t.Helper()
	if j, l, got := journal.Open(d); got != e || j != nil || len(l) != 0 {
		t.Errorf("Open: %v, %v, %d, want %d", j, l, got, e)
	}
}

// put appends, and fails unless that is OK.
func put(t *testing.T, j *journal.Journal, l ...string) {
	t.Helper()
	for _, b := range l {
		want(t, "Append", j.Append([]byte(b)), api.OK)
	}
}

// TestNil: of a nil journal there is nothing (P10.1 to P10.3, P1).
func TestNil(t *testing.T) {
	var j *journal.Journal
	want(t, "Append", j.Append(nil), api.ErrNil)
	want(t, "Append", j.Append(text('a', 1025)), api.ErrNil)
	want(t, "Sync", j.Sync(), api.ErrNil)
	want(t, "Renew", j.Renew(), api.ErrNil)
	want(t, "Renew", j.Renew(nil, text('a', 1025)), api.ErrNil)
	is(t, j, 0, 0)
}

// TestNothing: a journal that Open didn't make panics neither, and can't keep anything.
func TestNothing(t *testing.T) {
	var j journal.Journal
	is(t, &j, 0, 0)
	want(t, "Append", j.Append(nil), api.ErrFull)
	want(t, "Renew", j.Renew(nil), api.ErrFull)
	if j.Sync() == api.OK || j.Renew() == api.OK {
		t.Error("there is no device")
	}
	is(t, &j, 0, 0)
}

// TestNeed: how many blocks a record takes (P10.1).
func TestNeed(t *testing.T) {
	if journal.MostRecord != 1024 {
		t.Error("MostRecord:", journal.MostRecord)
	}
	for n := range 1025 {
		if got := len(whole(frame(0, 0, 0, make([]byte, n)))) / 64; journal.Need(n) != got {
			t.Errorf("Need(%d): %d, want %d", n, journal.Need(n), got)
		}
	}
	for _, c := range []struct{ n, need int }{
		{0, 1}, {45, 1}, {46, 2}, {109, 2}, {110, 3}, {1005, 16}, {1006, 17}, {1024, 17},
		{1025, 0}, {1026, 0}, {1 << 16, 0}, {math.MaxInt, 0}, {-1, 0}, {-18, 0}, {-19, 0}, {-20, 0}, {-64, 0}, {math.MinInt, 0},
	} {
		if got := journal.Need(c.n); got != c.need {
			t.Errorf("Need(%d): %d, want %d", c.n, got, c.need)
		}
	}
}

// TestOpenRefused: the first error is told, and nothing else (P10.1, P1).
func TestOpenRefused(t *testing.T) {
	closed(t, nil, api.ErrNil)
	closed(t, new(block.Device), api.ErrArg)
	for n := -1; n <= 3; n++ {
		d := block.New(n)
		closed(t, d, api.ErrArg)
		d.Off()
		closed(t, d, api.ErrDown)
		d.On()
		closed(t, d, api.ErrArg)
	}
	d := block.New(4)
	d.Off()
	closed(t, d, api.ErrDown)
	d.On()
	opened(t, d)
}

// TestRoom: of all blocks but two, half are a bank (P10.1).
func TestRoom(t *testing.T) {
	for _, c := range []struct{ n, room int }{{4, 1}, {5, 1}, {6, 2}, {7, 2}, {8, 3}, {9, 3}, {10, 4}, {11, 4}, {511, 254}, {512, 255}, {9999, 255}} {
		d := block.New(c.n)
		j := opened(t, d)
		is(t, j, 0, c.room)
		for i := range c.room {
			is(t, j, i, c.room-i)
			put(t, j, "x")
		}
		want(t, "Append", j.Append(nil), api.ErrFull)
		is(t, j, c.room, 0)
		for i := range c.room {
			has(t, d, 2+i, frame(0, uint32(i), 1, []byte("x")))
		}
		noughts(t, d, 0, 2)
		noughts(t, d, 2+c.room, d.Len()-2-c.room)
		want(t, "Renew", j.Renew([]byte("y")), api.OK)
		is(t, j, 1, c.room-1)
		has(t, d, 2+c.room, frame(1, 0, 1, []byte("y")))
	}
	j := opened(t, block.New(10)) // the chapter's example
	put(t, j, "abc")
	is(t, j, 1, 3)
}

// TestBytes: a frame and a head have these bytes and no others (P10.2, P10.3).
func TestBytes(t *testing.T) {
	d := block.New(6)
	j := opened(t, d)
	want(t, "Renew", j.Renew(), api.OK)
	put(t, j, "123456789")
	for i, s := range []string{
		"", "4F4A 00000001 2A886964", "", "", "A5 00000001 00000000 00000001 0009 313233343536373839 D7A74B23", "",
	} {
		b, err := hex.DecodeString(strings.ReplaceAll(s, " ", ""))
		if err != nil {
			t.Fatal(err)
		}
		has(t, d, i, append(b, make([]byte, 64-len(b))...))
	}
}

// TestAppend: frames stand one behind the other, by their numbers, in as many blocks as they need (P10.2).
func TestAppend(t *testing.T) {
	d := block.New(2 + 2*61)
	j := opened(t, d)
	at := 2
	for i, n := range []int{3, 0, 45, 46, 109, 110, 1024, 1, 1005, 1006} {
		b := text(byte('a'+i), n)
		is(t, j, i, 63-at)
		want(t, "Append", j.Append(b), api.OK)
		if d.Pending() == 0 {
			t.Error("Append syncs nothing")
		}
		has(t, d, at, frame(0, uint32(i), 1, b))
		at += journal.Need(n)
		noughts(t, d, at, d.Len()-at)
	}
	noughts(t, d, 0, 2)
	n := d.Pending()
	want(t, "Sync", j.Sync(), api.OK)
	if n != at-2 || d.Pending() != 0 {
		t.Errorf("%d were pending, then %d; want %d, 0", n, d.Pending(), at-2)
	}
}

// TestFull: a record for which there is no room, or that is too long, is refused, and nothing changes (P10.2, P10.5).
func TestFull(t *testing.T) {
	d := block.New(8)
	j := opened(t, d)
	put(t, j, "a")
	b := image(d)
	for _, n := range []int{1025, 1026, 1 << 16, 1<<16 + 3, 1 << 20} {
		want(t, "Append", j.Append(text('b', n)), api.ErrLong)
	}
	for _, n := range []int{110, 500, 1024} {
		want(t, "Append", j.Append(text('b', n)), api.ErrFull)
	}
	want(t, "Renew", j.Renew(text('b', 174)), api.ErrFull)
	want(t, "Renew", j.Renew(nil, nil, nil, nil), api.ErrFull)
	want(t, "Renew", j.Renew(text('b', 46), text('b', 46)), api.ErrFull)
	want(t, "Renew", j.Renew(nil, nil, nil, nil, text('b', 1025)), api.ErrLong)
	want(t, "Renew", j.Renew(text('b', 1025)), api.ErrLong)
	is(t, j, 1, 2)
	if !bytes.Equal(image(d), b) || d.Pending() != 1 {
		t.Error("what was refused wrote")
	}
	want(t, "Append", j.Append(text('c', 109)), api.OK)
	is(t, j, 2, 0)
	want(t, "Append", j.Append(nil), api.ErrFull)
	want(t, "Append", j.Append(text('c', 1025)), api.ErrLong)
	d.Off()
	want(t, "Append", j.Append(nil), api.ErrFull) // no power is the last thing that is asked
	want(t, "Append", j.Append(text('c', 1025)), api.ErrLong)
	want(t, "Renew", j.Renew(nil, nil, nil, nil), api.ErrFull)
	want(t, "Renew", j.Renew(nil, nil, nil, nil, text('b', 1025)), api.ErrLong)
	want(t, "Renew", j.Renew(), api.ErrDown)
	want(t, "Append", j.Append(text('c', 1025)), api.ErrDown)
}

// TestBack: what was appended is there when the device is opened again (P10.1, P10.2).
func TestBack(t *testing.T) {
	d := block.New(2 + 2*30)
	var l []string
	for i := range 9 {
		j := opened(t, d, l...)
		b := strings.Repeat(string(rune('a'+i)), 20*i)
		put(t, j, b, "")
		l = append(l, b, "")
		if i%3 == 0 {
			want(t, "Sync", j.Sync(), api.OK)
		}
	}
	opened(t, d, l...)
	d.Off(64)
	d.On()
	j := opened(t, d, l...)
	is(t, j, 18, 30-(9+1+1+1+2+2+2+3+3+3))
}

// TestDown: who was told once that the power is off answers ErrDown to all calls, also when it is back (P10.2, P10.3).
func TestDown(t *testing.T) {
	for what, fails := range map[string]func(j *journal.Journal) api.Errno{
		"Append": func(j *journal.Journal) api.Errno { return j.Append([]byte("b")) },
		"Sync":   func(j *journal.Journal) api.Errno { return j.Sync() },
		"Renew":  func(j *journal.Journal) api.Errno { return j.Renew([]byte("c")) },
	} {
		for _, armed := range []bool{false, true} {
			d := block.New(10)
			j := opened(t, d)
			put(t, j, "a")
			if armed {
				d.Arm(1, 64)
			} else {
				d.Off(64)
			}
			want(t, what, fails(j), api.ErrDown)
			for _, on := range []bool{false, true} {
				want(t, what+", then Append", j.Append(nil), api.ErrDown)
				want(t, what+", then Append", j.Append(text('b', 500)), api.ErrDown)
				want(t, what+", then Append", j.Append(text('b', 1025)), api.ErrDown)
				want(t, what+", then Sync", j.Sync(), api.ErrDown)
				want(t, what+", then Renew", j.Renew(), api.ErrDown)
				want(t, what+", then Renew", j.Renew(text('b', 500)), api.ErrDown)
				want(t, what+", then Renew", j.Renew(text('b', 1025)), api.ErrDown)
				is(t, j, 1, 3)
				if d.Down() == on {
					t.Error("Down:", d.Down())
				}
				d.On()
			}
			is(t, opened(t, d, "a"), 1, 3)
		}
	}
}

// TestArmed: at each act of an Append that needs several blocks the power may go: those ahead are written, in order (P10.2).
func TestArmed(t *testing.T) {
	b := text('b', 200)
	for acts := 1; acts <= 5; acts++ {
		d := block.New(20)
		j := opened(t, d)
		put(t, j, "a")
		d.Arm(acts, 64)
		e := j.Append(b)
		if acts == 5 {
			want(t, "Append", e, api.OK)
			is(t, j, 2, 4)
			continue
		}
		want(t, "Append", e, api.ErrDown)
		is(t, j, 1, 8)
		d.On()
		has(t, d, 2, frame(0, 0, 1, []byte("a")))
		has(t, d, 3, frame(0, 1, 1, b)[:64*(acts-1)])
		noughts(t, d, 2+acts, 18-acts)
		opened(t, d, "a")
		noughts(t, d, 3, 17)
	}
}

// TestOwn: neither what is handed in nor what is answered is the journal's (rules 4, 5).
func TestOwn(t *testing.T) {
	d := block.New(20)
	j := opened(t, d)
	a, b := []byte("abc"), []byte("def")
	want(t, "Append", j.Append(a), api.OK)
	want(t, "Append", j.Append(b), api.OK)
	a[0], b[0] = 'x', 'y'
	_, l, _ := journal.Open(d)
	_, m, _ := journal.Open(d)
	if string(l[0]) != "abc" || string(l[1]) != "def" {
		t.Errorf("%q", l)
	}
	_ = append(l[0], "zzzzzzzzzzzz"...)
	l[0][1], l[1] = 'z', nil
	if string(m[0]) != "abc" || string(m[1]) != "def" {
		t.Errorf("%q", m)
	}
	j = opened(t, d, "abc", "def")
	list := [][]byte{a, b}
	want(t, "Renew", j.Renew(list...), api.OK)
	if string(a) != "xbc" || string(b) != "yef" || &list[0][0] != &a[0] || &list[1][0] != &b[0] {
		t.Error("Renew changed what was handed in")
	}
	a[0], list[1] = 'p', nil
	opened(t, d, "xbc", "yef")
}
