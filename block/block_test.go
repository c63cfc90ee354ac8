package block_test

import (
	"bytes"
	"math"
	"math/rand"
	"slices"
	"testing"

	"ostiary/api"
	"ostiary/block"
)

// sector is a block's bytes: these, with noughts behind.
func sector(text string) []byte { return append([]byte(text), make([]byte, block.Size-len(text))...) }

// run is n bytes that are all the same.
func run(c byte, n int) []byte { return bytes.Repeat([]byte{c}, n) }

func want(t *testing.T, what string, got, e api.Errno) {
	t.Helper()
	if got != e {
		t.Errorf("%s: %d, want %d", what, got, e)
	}
}

// reads fails unless a block has these bytes.
func reads(t *testing.T, d *block.Device, i int, b []byte) {
	t.Helper()
	if got, e := d.Read(i); e != api.OK || !bytes.Equal(got, b) {
		t.Errorf("block %d: %q, %d, want %q", i, got, e, b)
	}
}

// put writes, and fails unless that is OK.
func put(t *testing.T, d *block.Device, i int, b []byte) {
	t.Helper()
	want(t, "Write", d.Write(i, b), api.OK)
}

// refuses fails unless a Read is refused so, and tells nothing.
func refuses(t *testing.T, d *block.Device, i int, e api.Errno) {
	t.Helper()
	if b, got := d.Read(i); got != e || len(b) != 0 {
		t.Errorf("Read(%d): %v, %d, want %d", i, b, got, e)
	}
}

// is fails unless the device is as said.
func is(t *testing.T, d *block.Device, down bool, n, pending int) {
	t.Helper()
	if d.Down() != down || d.Len() != n || d.Pending() != pending {
		t.Errorf("down %v, %d blocks, %d pending; want %v, %d, %d", d.Down(), d.Len(), d.Pending(), down, n, pending)
	}
}

// TestNil: of a nil device there is nothing, whatever is asked (P9.1, P9.2, P1).
func TestNil(t *testing.T) {
	var d *block.Device
	for _, i := range []int{math.MinInt, -1, 0, 1, math.MaxInt} {
		want(t, "Write", d.Write(i, nil), api.ErrNil)
		want(t, "Write", d.Write(i, run(1, 65)), api.ErrNil)
		refuses(t, d, i, api.ErrNil)
		d.Off(i)
		d.Arm(i, i)
		d.On()
	}
	d.Off()
	d.Arm(1)
	want(t, "Sync", d.Sync(), api.ErrNil)
	is(t, d, false, 0, 0)
}

// TestNothing: a device that New didn't make has no blocks, and panics neither.
func TestNothing(t *testing.T) {
	var d block.Device
	is(t, &d, false, 0, 0)
	want(t, "Write", d.Write(0, nil), api.ErrRange)
	refuses(t, &d, 0, api.ErrRange)
	want(t, "Sync", d.Sync(), api.OK)
	d.Arm(1, 5)
	want(t, "Sync", d.Sync(), api.ErrDown)
	is(t, &d, true, 0, 0)
}

// TestNew: so many blocks, of noughts, the power on (P9.1).
func TestNew(t *testing.T) {
	if block.Size != 64 || block.Most != 512 {
		t.Error("Size, Most:", block.Size, block.Most)
	}
	for _, c := range []struct{ n, len int }{
		{math.MinInt, 0}, {-1, 0}, {0, 0}, {1, 1}, {2, 2}, {7, 7}, {511, 511}, {512, 512}, {513, 512}, {1 << 20, 512}, {math.MaxInt, 512},
	} {
		d := block.New(c.n)
		is(t, d, false, c.len, 0)
		for i := range c.len {
			reads(t, d, i, sector(""))
		}
		refuses(t, d, c.len, api.ErrRange)
		want(t, "Write", d.Write(c.len, nil), api.ErrRange)
		if c.len > 0 {
			put(t, d, c.len-1, []byte("z"))
			reads(t, d, c.len-1, sector("z"))
		}
	}
}

// TestWrite: a block is what was written last, with noughts behind (P9.1).
func TestWrite(t *testing.T) {
	d := block.New(3)
	put(t, d, 1, run('x', 64))
	reads(t, d, 1, run('x', 64))
	put(t, d, 1, []byte("ab"))
	reads(t, d, 1, sector("ab"))
	put(t, d, 1, run('y', 63))
	reads(t, d, 1, append(run('y', 63), 0))
	put(t, d, 1, nil)
	reads(t, d, 1, sector(""))
	put(t, d, 1, []byte{})
	put(t, d, 2, []byte("c"))
	reads(t, d, 0, sector(""))
	reads(t, d, 2, sector("c"))
	is(t, d, false, 3, 6)
}

// TestRefused: the first error is told, and nothing changes (P9.1, P1).
func TestRefused(t *testing.T) {
	d := block.New(2)
	put(t, d, 0, []byte("a"))
	for _, i := range []int{math.MinInt, -2, -1, 2, 3, 512, math.MaxInt} {
		want(t, "Write", d.Write(i, []byte("b")), api.ErrRange)
		want(t, "Write", d.Write(i, run('b', 65)), api.ErrRange)
		refuses(t, d, i, api.ErrRange)
	}
	for _, n := range []int{65, 66, 128, 1 << 20} {
		want(t, "Write", d.Write(0, run('b', n)), api.ErrLong)
		want(t, "Write", d.Write(1, run('b', n)), api.ErrLong)
	}
	is(t, d, false, 2, 1)
	reads(t, d, 0, sector("a"))
	reads(t, d, 1, sector(""))

	d.Off(64)
	for _, i := range []int{math.MinInt, -1, 0, 1, 2, math.MaxInt} {
		want(t, "Write", d.Write(i, []byte("b")), api.ErrDown)
		want(t, "Write", d.Write(i, run('b', 65)), api.ErrDown)
		refuses(t, d, i, api.ErrDown)
	}
	want(t, "Sync", d.Sync(), api.ErrDown)
	is(t, d, true, 2, 0)
	d.On()
	reads(t, d, 0, sector("a"))
	reads(t, d, 1, sector(""))
}

// TestSync: what was synced is there, behind a loss of power, too (P9.1, P9.3).
func TestSync(t *testing.T) {
	d := block.New(3)
	want(t, "Sync", d.Sync(), api.OK)
	put(t, d, 0, []byte("a"))
	put(t, d, 1, []byte("b"))
	put(t, d, 0, []byte("c"))
	is(t, d, false, 3, 3)
	want(t, "Sync", d.Sync(), api.OK)
	is(t, d, false, 3, 0)
	reads(t, d, 0, sector("c"))
	put(t, d, 1, []byte("d"))
	d.Off()
	d.On()
	reads(t, d, 0, sector("c"))
	reads(t, d, 1, sector("b"))
	reads(t, d, 2, sector(""))
	put(t, d, 2, []byte("e")) // what was lost is not among what is pending now
	is(t, d, false, 3, 1)
	want(t, "Sync", d.Sync(), api.OK)
	d.Off(64)
	d.On()
	reads(t, d, 1, sector("b"))
	reads(t, d, 2, sector("e"))
}

// TestKeep: so many bytes of one pending write reach the block (P9.2).
func TestKeep(t *testing.T) {
	d := block.New(1)
	put(t, d, 0, []byte("ab"))
	want(t, "Sync", d.Sync(), api.OK)
	put(t, d, 0, []byte("cd"))
	d.Off(1)
	d.On()
	reads(t, d, 0, sector("cb"))

	for _, c := range []struct{ keep, n int }{
		{math.MinInt, 0}, {-64, 0}, {-1, 0}, {0, 0}, {1, 1}, {2, 2}, {9, 9}, {10, 10}, {11, 11}, {32, 32}, {62, 62}, {63, 63}, {64, 64}, {65, 64}, {128, 64}, {math.MaxInt, 64},
	} {
		d := block.New(2)
		put(t, d, 1, run('o', 64))
		want(t, "Sync", d.Sync(), api.OK)
		put(t, d, 1, run('n', 10)) // the noughts behind are of the write, too
		d.Off(c.keep)
		is(t, d, true, 2, 0)
		d.On()
		now := append(run('n', 10), make([]byte, 54)...)
		reads(t, d, 1, append(now[:c.n:c.n], run('o', 64-c.n)...))
		reads(t, d, 0, sector(""))
	}
}

// TestKeepMany: of several writes each one has its own number, and they go round; they reach their blocks in order (P9.2).
func TestKeepMany(t *testing.T) {
	for _, c := range []struct {
		keep []int
		want []string // of blocks 0, 1, 2
	}{
		{nil, []string{"", "", ""}},
		{[]int{0}, []string{"", "", ""}},
		{[]int{-1}, []string{"", "", ""}},
		{[]int{2}, []string{"ii", "gg", "hh"}},
		{[]int{99}, []string{"iiii", "gggg", "hhhh"}},
		{[]int{1, 2}, []string{"i", "gf", "hh"}},
		{[]int{2, 1}, []string{"ii", "gg", "h"}},
		{[]int{3, 0, 1}, []string{"eee", "g", "hhh"}},
		{[]int{4, 4, 3, 2, 1}, []string{"ieee", "gggf", "hh"}},
		{[]int{0, 0, 0, 0, 64}, []string{"iiii", "", ""}},
		{[]int{64, 64, 0, 0, 0, 7, 8}, []string{"eeee", "ffff", ""}},
	} {
		d := block.New(3)
		put(t, d, 0, []byte("eeee"))
		put(t, d, 1, []byte("ffff"))
		put(t, d, 1, []byte("gggg"))
		put(t, d, 2, []byte("hhhh"))
		put(t, d, 0, []byte("iiii"))
		is(t, d, false, 3, 5)
		d.Off(c.keep...)
		is(t, d, true, 3, 0)
		d.On()
		for i, text := range c.want {
			b, _ := d.Read(i)
			if !bytes.Equal(b, sector(text)) {
				t.Errorf("keep %v: block %d: %q, want %q", c.keep, i, b, text)
			}
		}
	}
}

// TestOff: it is off till On; a second Off changes nothing, nor does an On when it is on (P9.2).
func TestOff(t *testing.T) {
	d := block.New(1)
	put(t, d, 0, []byte("abcd"))
	d.Off(2)
	d.Off(64)
	is(t, d, true, 1, 0)
	d.On()
	is(t, d, false, 1, 0)
	reads(t, d, 0, sector("ab"))
	put(t, d, 0, []byte("xyz"))
	d.On()
	is(t, d, false, 1, 1)
	reads(t, d, 0, sector("xyz"))
	d.Off(1)
	d.On()
	reads(t, d, 0, sector("xb"))
	put(t, d, 0, []byte("q"))
	want(t, "Sync", d.Sync(), api.OK)
	reads(t, d, 0, sector("q"))
}

// TestArm: the act that is told does not happen: the power goes instead (P9.2).
func TestArm(t *testing.T) {
	for acts := 1; acts <= 6; acts++ {
		d := block.New(2)
		put(t, d, 0, []byte("before"))
		d.Arm(acts, 2, 64, 0, 3)
		var got []api.Errno
		for i := range 6 {
			if i%2 == 0 {
				got = append(got, d.Write(1, run(byte('a'+i), 4)))
			} else {
				got = append(got, d.Sync())
			}
		}
		for i, e := range got {
			if (e == api.OK) != (i+1 < acts) || e != api.OK && e != api.ErrDown {
				t.Errorf("Arm(%d): act %d: %d", acts, i+1, e)
			}
		}
		is(t, d, true, 2, 0)
		d.On()
		reads(t, d, 0, sector([]string{"be", "be", "before", "before", "before", "before"}[acts-1]))
		reads(t, d, 1, sector([]string{"", "aaaa", "aaaa", "ccaa", "cccc", "eecc"}[acts-1]))
	}
}

// TestNoAct: what is refused for its arguments is no act, nor is any other call (P9.2).
func TestNoAct(t *testing.T) {
	d := block.New(1)
	d.Arm(2, 64)
	for range 5 {
		want(t, "Write", d.Write(1, nil), api.ErrRange)
		want(t, "Write", d.Write(-1, nil), api.ErrRange)
		want(t, "Write", d.Write(0, run(1, 65)), api.ErrLong)
		refuses(t, d, 1, api.ErrRange)
		reads(t, d, 0, sector(""))
		is(t, d, false, 1, 0)
	}
	put(t, d, 0, []byte("a"))
	want(t, "Write", d.Write(1, nil), api.ErrRange)
	want(t, "Write", d.Write(0, run(1, 65)), api.ErrLong)
	is(t, d, false, 1, 1)
	want(t, "Write", d.Write(0, []byte("b")), api.ErrDown)
	is(t, d, true, 1, 0)
	d.On()
	reads(t, d, 0, sector("a"))
	put(t, d, 0, []byte("c")) // it goes but once
	want(t, "Sync", d.Sync(), api.OK)
	reads(t, d, 0, sector("c"))
}

// TestTakeBack: a later Arm, an Off and an On take an Arm back; below 1 none is meant (P9.2).
func TestTakeBack(t *testing.T) {
	goes := func(what string, d *block.Device) {
		t.Helper()
		for i := range 20 {
			if e := d.Write(0, []byte{byte(i)}); e != api.OK {
				t.Errorf("%s: write %d: %d", what, i, e)
			}
			if e := d.Sync(); e != api.OK {
				t.Errorf("%s: sync %d: %d", what, i, e)
			}
		}
	}
	for _, acts := range []int{0, -1, -2, math.MinInt} {
		d := block.New(1)
		d.Arm(acts, 5)
		goes("Arm", d)
		d.Arm(3)
		put(t, d, 0, nil)
		d.Arm(acts)
		goes("a later Arm", d)
	}
	d := block.New(1)
	d.Arm(1)
	d.On()
	goes("On", d)
	d.Arm(1)
	d.Off()
	d.On()
	goes("Off, On", d)
	d.Off()
	d.Arm(1)
	d.Off(1)
	d.Arm(2)
	want(t, "Write", d.Write(0, nil), api.ErrDown)
	d.On()
	goes("armed while it is off", d)
	d.Arm(math.MaxInt)
	goes("Arm of very many", d)
	d.Arm(2, 64)
	d.Arm(3, 1)
	put(t, d, 0, []byte("xyz"))
	put(t, d, 0, []byte("pqr"))
	want(t, "Sync", d.Sync(), api.ErrDown)
	d.On()
	reads(t, d, 0, sector("p"))
}

// TestOwn: neither what is handed in nor what is answered is the device's (rules 4, 5).
func TestOwn(t *testing.T) {
	d := block.New(2)
	b := []byte("abc")
	put(t, d, 0, b)
	b[0] = 'x'
	reads(t, d, 0, sector("abc"))
	got, _ := d.Read(0)
	got[1] = 'y'
	_ = append(got, 'z')
	reads(t, d, 0, sector("abc"))
	reads(t, d, 1, sector(""))
	want(t, "Sync", d.Sync(), api.OK)
	got, _ = d.Read(0)
	got[1] = 'y'
	d.Off()
	d.On()
	reads(t, d, 0, sector("abc"))
	got, _ = d.Read(0)
	got[2] = 'z'
	reads(t, d, 0, sector("abc"))

	keep := []int{1, 1}
	d.Arm(3, keep...)
	put(t, d, 0, []byte("def"))
	put(t, d, 1, []byte("ghi"))
	keep[0], keep[1] = 3, 0
	want(t, "Sync", d.Sync(), api.ErrDown)
	d.On()
	reads(t, d, 0, sector("dbc"))
	reads(t, d, 1, sector("g"))
	put(t, d, 0, []byte("jkl"))
	keep[0] = 2
	d.Off(keep...)
	if !slices.Equal(keep, []int{2, 0}) {
		t.Error("keep was changed:", keep)
	}
}

// disk is a device as the chapter tells it: what lasts, and a list of writes that do not.
type disk struct {
	lasts [][]byte
	wait  []waiting
	off   bool
	arm   int
	keep  []int
}

type waiting struct {
	at int
	b  []byte
}

// land: so many bytes of what waits reach the blocks.
func (m *disk) land(keep []int) {
	for j, w := range m.wait {
		for k := range w.b {
			if len(keep) > 0 && k < keep[j%len(keep)] {
				m.lasts[w.at][k] = w.b[k]
			}
		}
	}
	m.wait = nil
}

func (m *disk) power(keep []int) {
	if !m.off {
		m.land(keep)
	}
	m.off, m.arm = true, 0
}

// refused: an act is asked for; why does it not happen?
func (m *disk) refused(bad api.Errno) api.Errno {
	if m.off {
		return api.ErrDown
	}
	if bad != api.OK {
		return bad
	}
	if m.arm--; m.arm == 0 {
		m.power(m.keep)
		return api.ErrDown
	}
	return api.OK
}

func (m *disk) write(i int, b []byte) api.Errno {
	bad := api.OK
	if i < 0 || i >= len(m.lasts) {
		bad = api.ErrRange
	} else if len(b) > block.Size {
		bad = api.ErrLong
	}
	e := m.refused(bad)
	if e == api.OK {
		m.wait = append(m.wait, waiting{i, sector(string(b))})
	}
	return e
}

func (m *disk) sync() api.Errno {
	e := m.refused(api.OK)
	if e == api.OK {
		m.land([]int{block.Size})
	}
	return e
}

func (m *disk) read(i int) []byte {
	for _, w := range slices.Backward(m.wait) {
		if w.at == i {
			return w.b
		}
	}
	return m.lasts[i]
}

// TestModel: whatever befalls, a device is as the chapter tells it (P9.1, P9.2).
func TestModel(t *testing.T) {
	r := rand.New(rand.NewSource(9))
	for range 300 {
		n := r.Intn(5)
		d, m := block.New(n), &disk{lasts: make([][]byte, n)}
		for i := range n {
			m.lasts[i] = sector("")
		}
		for step := range 200 {
			keep := make([]int, r.Intn(4))
			for i := range keep {
				keep[i] = r.Intn(80) - 8
			}
			switch k := r.Intn(40); {
			case k < 22:
				i, b := r.Intn(n+2)-1, run(byte(r.Intn(256)), r.Intn(68))
				if k < 20 && n > 0 {
					i, b = r.Intn(n), b[:min(len(b), block.Size)]
				}
				want(t, "Write", d.Write(i, b), m.write(i, b))
			case k < 28:
				want(t, "Sync", d.Sync(), m.sync())
			case k < 31:
				d.Off(keep...)
				m.power(keep)
			case k < 35:
				d.On()
				m.off, m.arm = false, 0
			default:
				acts := r.Intn(9) - 1
				d.Arm(acts, keep...)
				m.arm, m.keep = max(acts, 0), keep
			}
			is(t, d, m.off, n, len(m.wait))
			for i := range n {
				if m.off {
					refuses(t, d, i, api.ErrDown)
				} else {
					reads(t, d, i, m.read(i))
				}
			}
			if t.Failed() {
				t.Fatal("at step", step)
			}
		}
	}
}

// TestByteByByte: behind a loss of power a byte is what one of the writes since the last Sync had there, or what was synced (P9.3, P9.4).
func TestByteByByte(t *testing.T) {
	r := rand.New(rand.NewSource(94))
	for range 500 {
		d := block.New(3)
		var may [3][block.Size][]byte // what each byte may be
		for i := range may {
			for k := range may[i] {
				may[i][k] = []byte{0}
			}
		}
		for range 10 + r.Intn(20) {
			if r.Intn(6) == 0 {
				want(t, "Sync", d.Sync(), api.OK)
				for i := range may {
					for k, l := range may[i] {
						may[i][k] = l[len(l)-1:]
					}
				}
				continue
			}
			i, b := r.Intn(2), run(byte(1+r.Intn(255)), r.Intn(65)) // block 2 is never written
			put(t, d, i, b)
			for k, c := range sector(string(b)) {
				may[i][k] = append(may[i][k], c)
			}
		}
		d.Off(r.Intn(70), r.Intn(70)-5, r.Intn(70))
		d.On()
		for i := range may {
			b, _ := d.Read(i)
			for k, c := range b {
				if !bytes.Contains(may[i][k], []byte{c}) {
					t.Fatalf("block %d, byte %d: %d is none of %v", i, k, c, may[i][k])
				}
			}
		}
	}
}
