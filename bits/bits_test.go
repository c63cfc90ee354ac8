package bits_test

import (
	"bytes"
	"math"
	"math/rand"
	"strings"
	"testing"

	"ostiary/api"
	"ostiary/bits"
)

// badWidths are lengths that no number has.
var badWidths = []int{math.MinInt, -1 << 32, -64, -1, 0, 65, 128, 1 << 32, math.MaxInt}

// text tells v's n lowest bits as signs, the highest first.
func text(n int, v uint64) string {
	var b strings.Builder
	for k := n - 1; k >= 0; k-- {
		b.WriteByte('0' + byte(v>>k&1))
	}
	return b.String()
}

func textOf(l []byte) string {
	var b strings.Builder
	for _, c := range l {
		b.WriteString(text(8, uint64(c)))
	}
	return b.String()
}

// shows fails unless the Out has just these bits, and noughts behind them up to a whole byte.
func shows(t *testing.T, o *bits.Out, want string) {
	t.Helper()
	if o.Len() != len(want) {
		t.Fatalf("Len %d, not %d", o.Len(), len(want))
	}
	full := want + strings.Repeat("0", -len(want)&7)
	if got := textOf(o.Done()); got != full {
		t.Fatalf("Done %s, not %s", got, full)
	}
}

func is(t *testing.T, what string, got, want api.Errno) {
	t.Helper()
	if got != want {
		t.Errorf("%s: %d, not %d", what, got, want)
	}
}

// stands fails unless the In was not refused anything, and stands at this bit with so many left.
func stands(t *testing.T, i *bits.In, at, left int) {
	t.Helper()
	if i.Err() != api.OK || i.At() != at || i.Left() != left {
		t.Errorf("Err %d, At %d, Left %d; not 0, %d, %d", i.Err(), i.At(), i.Left(), at, left)
	}
}

// broken fails unless the In tells this error, stands at this bit, and answers nothing any more.
func broken(t *testing.T, i *bits.In, e api.Errno, at int) {
	t.Helper()
	for range 2 {
		if i.Err() != e || i.At() != at || i.Left() != 0 {
			t.Errorf("Err %d, At %d, Left %d; not %d, %d, 0", i.Err(), i.At(), i.Left(), e, at)
		}
		if v := i.Bits(1); v != 0 {
			t.Errorf("Bits %d behind an error", v)
		}
		if l := i.Bytes(1); len(l) != 0 {
			t.Errorf("Bytes %x behind an error", l)
		}
		if l := i.Rest(); len(l) != 0 {
			t.Errorf("Rest %x behind an error", l)
		}
		i.Skip(1)
		i.Skip(-1)
		i.Bits(65)
		i.Bytes(math.MaxInt)
	}
}

func TestExample(t *testing.T) {
	o := bits.New()
	is(t, "Bits", o.Bits(4, 4, 5), api.OK)
	is(t, "Bits", o.Bits(3, 1), api.OK)
	shows(t, o, "01000101"+"001")
	i := bits.Of(o.Done())
	if i.Bits(8) != 69 || i.Bits(3) != 1 || i.Left() != 5 {
		t.Error("read", i.At(), i.Left())
	}
}

// The sentences ahead of P1.1.

func TestNilOut(t *testing.T) {
	var o *bits.Out
	is(t, "Bits", o.Bits(8, 1), api.ErrNil)
	is(t, "Bits of no width", o.Bits(0), api.ErrNil)
	is(t, "Bytes", o.Bytes([]byte{1}), api.ErrNil)
	is(t, "Bytes of none", o.Bytes(), api.ErrNil)
	is(t, "Set", o.Set(0, 1, 1), api.ErrNil)
	is(t, "Set of no width", o.Set(-1, 0, 1), api.ErrNil)
	if o.Fill() != 0 || o.Len() != 0 || len(o.Done()) != 0 {
		t.Error("a nil Out has something")
	}
}

func TestNilIn(t *testing.T) {
	var i *bits.In
	broken(t, i, api.ErrNil, 0)
	if i.Bits(0) != 0 || len(i.Bytes(0)) != 0 || len(i.Bytes(-1)) != 0 {
		t.Error("a nil In has something")
	}
}

// P1.1.

func TestNew(t *testing.T) {
	shows(t, bits.New(), "")
	shows(t, bits.New(nil, []byte{}, nil), "")
	shows(t, bits.New([]byte{1, 2}, nil, []byte{3}), text(24, 0x010203))
	o := bits.New([]byte{0xAB})
	is(t, "Bits behind New", o.Bits(4, 0xC), api.OK)
	shows(t, o, text(12, 0xABC))
}

func TestNewLeavesOutWhatIsBeyondMost(t *testing.T) {
	most := bytes.Repeat([]byte{7}, bits.Most)
	for name, o := range map[string]*bits.Out{
		"just Most":        bits.New(most),
		"one more":         bits.New(most, []byte{9}),
		"one more, at one": bits.New(append(bytes.Clone(most), 9)),
		"across":           bits.New(most[:bits.Most-1], []byte{7, 9, 9}, []byte{9}),
		"far more":         bits.New(most, most, most),
	} {
		if o.Len() != 8*bits.Most || !bytes.Equal(o.Done(), most) {
			t.Errorf("%s: %d bits", name, o.Len())
		}
	}
	o := bits.New(most[1:])
	if o.Len() != 8*bits.Most-8 {
		t.Errorf("one less: %d bits", o.Len())
	}
}

func TestNewKeepsNoList(t *testing.T) {
	a, b := []byte{1, 2}, []byte{3}
	parts := [][]byte{a, b}
	o := bits.New(parts...)
	o.Set(0, 8, 0xFF)
	if a[0] != 1 || b[0] != 3 || len(parts) != 2 {
		t.Error("New's parts were changed")
	}
	a[1], b[0], parts[0] = 9, 9, nil
	shows(t, o, text(24, 0xFF0203))
}

func TestNewDoesNotWriteBehindItsParts(t *testing.T) {
	a := []byte{1, 2, 3, 4}
	o := bits.New(a[:1])
	o.Bytes([]byte{8, 9})
	if !bytes.Equal(a, []byte{1, 2, 3, 4}) {
		t.Errorf("what stands behind a part is %x now", a)
	}
}

func TestBitsOfEachWidth(t *testing.T) {
	const v = 0x8123456789ABCDEF
	for n := 1; n <= 64; n++ {
		for ahead := range 9 {
			o := bits.New()
			for range ahead {
				is(t, "Bits", o.Bits(1, 1), api.OK)
			}
			is(t, "Bits", o.Bits(n, v, ^uint64(v), 0, math.MaxUint64), api.OK)
			want := text(n, v) + text(n, ^uint64(v)) + text(n, 0) + text(n, math.MaxUint64)
			shows(t, o, strings.Repeat("1", ahead)+want)
		}
	}
}

func TestBitsTakesTheLowestOnes(t *testing.T) {
	o := bits.New()
	is(t, "Bits", o.Bits(1, 2, 3), api.OK)
	is(t, "Bits", o.Bits(4, 0xFFF0), api.OK)
	shows(t, o, "01"+"0000")
}

func TestBitsOfNoNumbers(t *testing.T) {
	o := bits.New([]byte{1})
	is(t, "Bits", o.Bits(64), api.OK)
	is(t, "Bits", o.Bits(3, []uint64{}...), api.OK)
	shows(t, o, text(8, 1))
}

func TestBitsOfNoWidth(t *testing.T) {
	full := bits.New(make([]byte, bits.Most))
	for _, n := range badWidths {
		o := bits.New([]byte{0xFF})
		is(t, "Bits", o.Bits(n, 1, 2), api.ErrArg)
		is(t, "Bits of no numbers", o.Bits(n), api.ErrArg)
		shows(t, o, "11111111")
		is(t, "Bits of a full one", full.Bits(n, 1), api.ErrArg)
	}
}

func TestBitsFull(t *testing.T) {
	o := bits.New(make([]byte, bits.Most-1))
	is(t, "Bits", o.Bits(5, 0), api.OK)
	for n := 4; n <= 64; n++ {
		is(t, "one number", o.Bits(n, math.MaxUint64), api.ErrFull)
	}
	is(t, "four numbers", o.Bits(1, 1, 1, 1, 1), api.ErrFull)
	is(t, "two numbers", o.Bits(2, 3, 3), api.ErrFull)
	if o.Len() != 8*bits.Most-3 || o.Done()[bits.Most-1] != 0 {
		t.Error("a call that was refused wrote")
	}
	is(t, "the last bits", o.Bits(1, 1, 0, 1), api.OK)
	if o.Len() != 8*bits.Most || o.Done()[bits.Most-1] != 5 {
		t.Error("the last bits", o.Len())
	}
	is(t, "one bit more", o.Bits(1, 1), api.ErrFull)
	is(t, "none more", o.Bits(1), api.OK)
}

func TestBitsFullOfWords(t *testing.T) {
	o := bits.New()
	l := make([]uint64, bits.Most/8+1)
	is(t, "one too many", o.Bits(64, l...), api.ErrFull)
	shows(t, o, "")
	is(t, "just so many", o.Bits(64, l[1:]...), api.OK)
	if o.Len() != 8*bits.Most || len(o.Done()) != bits.Most {
		t.Error("Len", o.Len())
	}
}

func TestBytesWhereverTheLastOneEnded(t *testing.T) {
	for ahead := range 17 {
		o := bits.New()
		for range ahead {
			o.Bits(1, 1)
		}
		is(t, "Bytes", o.Bytes([]byte{0x80, 0x01}, nil, []byte{0xA5}), api.OK)
		want := strings.Repeat("1", ahead) + text(24, 0x8001A5)
		shows(t, o, want)
		is(t, "Bytes of none", o.Bytes(), api.OK)
		is(t, "Bytes of empty ones", o.Bytes(nil, []byte{}), api.OK)
		is(t, "Bits behind", o.Bits(2, 2), api.OK)
		shows(t, o, want+"10")
	}
}

func TestBytesFull(t *testing.T) {
	most := bytes.Repeat([]byte{0xFF}, bits.Most)
	o := bits.New()
	is(t, "one too many", o.Bytes(most, []byte{1}), api.ErrFull)
	is(t, "one too many, first", o.Bytes([]byte{1}, most), api.ErrFull)
	is(t, "many parts", o.Bytes(most[:bits.Most/2], most[:bits.Most/2], nil, most[:1]), api.ErrFull)
	shows(t, o, "")
	is(t, "just so many", o.Bytes(most[1:], most[:1]), api.OK)
	if o.Len() != 8*bits.Most || !bytes.Equal(o.Done(), most) {
		t.Error("Len", o.Len())
	}
	is(t, "one more", o.Bytes([]byte{1}), api.ErrFull)
	is(t, "none more", o.Bytes(nil, nil), api.OK)
}

func TestBytesFullBetweenBytes(t *testing.T) {
	most := bytes.Repeat([]byte{0xFF}, bits.Most)
	o := bits.New()
	o.Bits(1, 1)
	is(t, "seven bits too few", o.Bytes(most), api.ErrFull)
	shows(t, o, "1")
	is(t, "seven bits left", o.Bytes(most[1:]), api.OK)
	is(t, "one byte more", o.Bytes([]byte{0}), api.ErrFull)
	is(t, "seven bits more", o.Bits(7, 127), api.OK)
	if o.Len() != 8*bits.Most || !bytes.Equal(o.Done(), most) {
		t.Error("Len", o.Len())
	}
}

func TestBytesKeepsNoList(t *testing.T) {
	a := []byte{1, 2}
	l := []uint64{3}
	o := bits.New()
	o.Bytes(a)
	o.Bits(8, l...)
	o.Set(0, 8, 0xFF)
	if a[0] != 1 || l[0] != 3 {
		t.Error("what was handed in was changed")
	}
	a[1], l[0] = 9, 9
	shows(t, o, text(24, 0xFF0203))
}

// P1.2.

func TestFill(t *testing.T) {
	for n := range 65 {
		o := bits.New()
		want := ""
		if n > 0 {
			o.Bits(n, math.MaxUint64)
			want = text(n, math.MaxUint64)
		}
		more := -n & 7
		if got := o.Fill(); got != more {
			t.Errorf("Fill behind %d bits: %d", n, got)
		}
		want += strings.Repeat("0", more)
		shows(t, o, want)
		if got := o.Fill(); got != 0 {
			t.Errorf("Fill again behind %d bits: %d", n, got)
		}
		o.Bits(3, 7)
		shows(t, o, want+"111")
	}
}

func TestFillOfAFullOne(t *testing.T) {
	o := bits.New(make([]byte, bits.Most-1))
	o.Bits(1, 1)
	if o.Fill() != 7 || o.Fill() != 0 || o.Len() != 8*bits.Most {
		t.Error("Fill", o.Len())
	}
}

func TestSetErrors(t *testing.T) {
	o := bits.New([]byte{0xA5, 0xA5})
	o.Bits(3, 5)
	want := "1010010110100101" + "101"
	for _, n := range badWidths {
		for _, at := range []int{0, -1, 19, math.MinInt, math.MaxInt} {
			is(t, "Set of no width", o.Set(at, n, 0), api.ErrArg)
		}
	}
	for n := 1; n <= 64; n++ {
		for _, at := range []int{math.MinInt, -64, -1, 20 - n, 19, 20, 24, 1 << 40, math.MaxInt - n, math.MaxInt} {
			if at >= 0 && at+n <= 19 && at+n > 0 {
				continue
			}
			is(t, "Set beyond", o.Set(at, n, ^uint64(0)), api.ErrRange)
			is(t, "Set beyond", o.Set(at, n, 0), api.ErrRange)
		}
	}
	shows(t, o, want)
	is(t, "Set of an empty one", bits.New().Set(0, 1, 1), api.ErrRange)
}

func TestSetUpToTheLastBit(t *testing.T) {
	o := bits.New()
	o.Bits(5, 0)
	is(t, "the last bit", o.Set(4, 1, 1), api.OK)
	is(t, "one behind it", o.Set(5, 1, 1), api.ErrRange)
	is(t, "half behind it", o.Set(4, 2, 3), api.ErrRange)
	is(t, "all", o.Set(0, 5, 0b10101), api.OK)
	shows(t, o, "10101")
	o.Fill()
	is(t, "one that was filled", o.Set(7, 1, 1), api.OK)
	shows(t, o, "10101001")
}

func TestDone(t *testing.T) {
	o := bits.New()
	if len(o.Done()) != 0 {
		t.Error("Done of an empty one")
	}
	o.Bits(3, 7)
	a := o.Done()
	b := o.Done()
	if len(a) != 1 || a[0] != 0xE0 || len(b) != 1 || b[0] != 0xE0 {
		t.Errorf("Done %x, %x", a, b)
	}
	a[0] = 0x11
	_ = append(b[:0:1], 0x22)
	shows(t, o, "111")
	o.Bits(5, 0b10001)
	o.Bits(2, 3)
	shows(t, o, "11110001"+"11")
	if a[0] != 0x11 || b[0] != 0x22 {
		t.Error("what was told is written into later")
	}
}

func TestDoneOfAFullOne(t *testing.T) {
	o := bits.New(make([]byte, bits.Most))
	_ = append(o.Done(), 1)
	o.Done()[0] = 1
	if !bytes.Equal(o.Done(), make([]byte, bits.Most)) {
		t.Error("what a caller wrote is told")
	}
}

// P1.3.

func TestOf(t *testing.T) {
	for _, b := range [][]byte{nil, {}} {
		i := bits.Of(b)
		stands(t, i, 0, 0)
		if len(i.Bytes(0)) != 0 || len(i.Rest()) != 0 {
			t.Error("there is something in nothing")
		}
		i.Skip(0)
		stands(t, i, 0, 0)
		i.Bits(1)
		broken(t, i, api.ErrRange, 0)
	}
	stands(t, bits.Of([]byte{1, 2}), 0, 16)
}

func TestOfKeepsNoList(t *testing.T) {
	b := []byte{1, 2, 3}
	i := bits.Of(b)
	b[0], b[1] = 9, 9
	if i.Bits(8) != 1 {
		t.Error("what was handed in is kept")
	}
	l := i.Bytes(2)
	l[0] = 7
	if b[1] != 9 || b[2] != 3 || !bytes.Equal(l, []byte{7, 3}) {
		t.Error("what was handed in was changed", b, l)
	}
}

func TestOfMoreThanMost(t *testing.T) {
	i := bits.Of(bytes.Repeat([]byte{5}, bits.Most+2))
	stands(t, i, 0, 8*bits.Most+16)
	i.Skip(8*bits.Most + 8)
	if i.Bits(8) != 5 {
		t.Error("the last byte")
	}
	stands(t, i, 8*bits.Most+16, 0)
}

func TestReadBitsOfEachWidth(t *testing.T) {
	b := []byte{0x81, 0x23, 0x45, 0x67, 0x89, 0xAB, 0xCD, 0xEF, 0xFE, 0xDC}
	all := textOf(b)
	for n := 1; n <= 64; n++ {
		for at := range len(all) - n + 1 {
			i := bits.Of(b)
			i.Skip(at)
			if got := text(64, i.Bits(n)); got != strings.Repeat("0", 64-n)+all[at:at+n] {
				t.Fatalf("%d bits at %d: %s", n, at, got)
			}
			stands(t, i, at+n, len(all)-at-n)
		}
	}
}

func TestReadBytes(t *testing.T) {
	b := []byte{0x81, 0x23, 0x45, 0x67, 0x89}
	all := textOf(b)
	for at := range len(all) + 1 {
		for n := range (len(all)-at)/8 + 1 {
			i := bits.Of(b)
			i.Skip(at)
			if got := textOf(i.Bytes(n)); got != all[at:at+8*n] {
				t.Fatalf("%d bytes at %d: %s", n, at, got)
			}
			stands(t, i, at+8*n, len(all)-at-8*n)
		}
	}
}

func TestRest(t *testing.T) {
	b := []byte{0x81, 0x23, 0x45}
	all := textOf(b)
	for at := range len(all) + 1 {
		i := bits.Of(b)
		i.Skip(at)
		n := (len(all) - at) / 8
		if got := textOf(i.Rest()); got != all[at:at+8*n] {
			t.Fatalf("Rest at %d: %s", at, got)
		}
		stands(t, i, at+8*n, len(all)-at-8*n)
		if len(i.Rest()) != 0 {
			t.Error("Rest twice")
		}
		stands(t, i, at+8*n, len(all)-at-8*n)
	}
}

func TestReadsShareNothing(t *testing.T) {
	for _, ahead := range []int{0, 3} {
		i := bits.Of([]byte{0, 0, 0, 0})
		i.Skip(ahead)
		a := i.Bytes(1)
		a[0] = 1
		_ = append(a, 2, 2, 2, 2)
		b := i.Rest()
		b[0] |= 4
		if a[0] != 1 || b[0] != 4 || b[1] != 0 {
			t.Error("lists that were told share something", a, b)
		}
	}
}

func TestReadNothing(t *testing.T) {
	i := bits.Of([]byte{1})
	i.Skip(0)
	if len(i.Bytes(0)) != 0 {
		t.Error("Bytes(0)")
	}
	i.Skip(8)
	i.Skip(0)
	if len(i.Bytes(0)) != 0 || len(i.Rest()) != 0 {
		t.Error("Bytes(0) at the end")
	}
	stands(t, i, 8, 0)
}

func TestReadErrArg(t *testing.T) {
	for _, at := range []int{0, 5, 16} {
		for _, n := range badWidths {
			i := bits.Of([]byte{0xFF, 0xFF})
			i.Skip(at)
			if v := i.Bits(n); v != 0 {
				t.Errorf("Bits(%d): %d", n, v)
			}
			broken(t, i, api.ErrArg, at)
		}
		for _, n := range []int{-1, -8, -1 << 32, math.MinInt} {
			i := bits.Of([]byte{0xFF, 0xFF})
			i.Skip(at)
			if l := i.Bytes(n); len(l) != 0 {
				t.Errorf("Bytes(%d): %x", n, l)
			}
			broken(t, i, api.ErrArg, at)
			i = bits.Of([]byte{0xFF, 0xFF})
			i.Skip(at)
			i.Skip(n)
			broken(t, i, api.ErrArg, at)
		}
	}
}

func TestReadErrRange(t *testing.T) {
	for at := range 17 {
		left := 16 - at
		for n := left + 1; n <= 64; n++ {
			i := bits.Of([]byte{0xFF, 0xFF})
			i.Skip(at)
			if v := i.Bits(n); v != 0 {
				t.Errorf("Bits(%d): %d", n, v)
			}
			broken(t, i, api.ErrRange, at)
		}
		for _, n := range []int{left/8 + 1, left + 9, 1 << 61, 1<<61 + 1, math.MaxInt} {
			i := bits.Of([]byte{0xFF, 0xFF})
			i.Skip(at)
			if l := i.Bytes(n); len(l) != 0 {
				t.Errorf("Bytes(%d): %x", n, l)
			}
			broken(t, i, api.ErrRange, at)
		}
		for _, n := range []int{left + 1, left + 100, 1 << 40, math.MaxInt} {
			i := bits.Of([]byte{0xFF, 0xFF})
			i.Skip(at)
			i.Skip(n)
			broken(t, i, api.ErrRange, at)
		}
	}
}

func TestTheFirstErrorCounts(t *testing.T) {
	i := bits.Of([]byte{1})
	i.Bits(9)
	i.Bits(0)
	is(t, "Err", i.Err(), api.ErrRange)
	i = bits.Of([]byte{1})
	i.Bytes(-1)
	i.Bytes(2)
	is(t, "Err", i.Err(), api.ErrArg)
}

// P1.4.

func TestBack(t *testing.T) {
	r := rand.New(rand.NewSource(1))
	for range 300 {
		o := bits.New()
		var widths []int
		var wrote []uint64
		var lists [][]byte
		for range 1 + r.Intn(40) {
			n, v, l := r.Intn(65), r.Uint64(), make([]byte, r.Intn(4))
			r.Read(l)
			if n == 0 {
				is(t, "Bytes", o.Bytes(l), api.OK)
			} else {
				is(t, "Bits", o.Bits(n, v), api.OK)
			}
			widths, wrote, lists = append(widths, n), append(wrote, v), append(lists, l)
		}
		i := bits.Of(o.Done())
		for k, n := range widths {
			if n == 0 {
				if l := i.Bytes(len(lists[k])); !bytes.Equal(l, lists[k]) {
					t.Fatalf("%x was read as %x", lists[k], l)
				}
			} else if v := i.Bits(n); v != wrote[k]<<(64-n)>>(64-n) {
				t.Fatalf("%x of %d bits was read as %x", wrote[k], n, v)
			}
		}
		stands(t, i, o.Len(), -o.Len()&7)
	}
}

// What was written as one number is read in pieces, and the other way round.
func TestBackInPieces(t *testing.T) {
	o := bits.New()
	o.Bits(3, 5)
	o.Bits(16, 0x1234)
	o.Bytes([]byte{0x56})
	i := bits.Of(o.Done())
	if v := i.Bits(27); v != 5<<24|0x123456 {
		t.Errorf("in one: %x", v)
	}
	i = bits.Of(o.Done())
	i.Skip(3)
	if l := i.Rest(); !bytes.Equal(l, []byte{0x12, 0x34, 0x56}) {
		t.Errorf("as bytes: %x", l)
	}
}

// P1.5.

func TestSetIsReadAndTheOthersStay(t *testing.T) {
	for _, ground := range []byte{0x00, 0xFF, 0xA5} {
		b := bytes.Repeat([]byte{ground}, 11)
		for n := 1; n <= 64; n++ {
			for at := range 86 - n + 1 {
				o := bits.New(b[:10])
				o.Bits(6, uint64(ground))
				ahead := textOf(b[:10]) + text(6, uint64(ground))
				v := uint64(0x96C3_5A0F_8123_4567)
				is(t, "Set", o.Set(at, n, v), api.OK)
				shows(t, o, ahead[:at]+text(n, v)+ahead[at+n:])
				i := bits.Of(o.Done())
				i.Skip(at)
				if got := i.Bits(n); got != v<<(64-n)>>(64-n) {
					t.Fatalf("%d bits at %d: %x", n, at, got)
				}
			}
		}
	}
}

// A row of calls of all kinds, held against a text of noughts and ones.
func TestAgainstText(t *testing.T) {
	r := rand.New(rand.NewSource(2))
	for range 200 {
		o, want := bits.New(), ""
		for range 60 {
			n, v := 1+r.Intn(64), r.Uint64()
			switch r.Intn(4) {
			case 0:
				is(t, "Bits", o.Bits(n, v, ^v), api.OK)
				want += text(n, v) + text(n, ^v)
			case 1:
				l := []byte{byte(v), byte(v >> 8)}
				is(t, "Bytes", o.Bytes(l, l[1:]), api.OK)
				want += textOf(l) + textOf(l[1:])
			case 2:
				more := -len(want) & 7
				if r.Intn(4) == 0 && o.Fill() == more {
					want += strings.Repeat("0", more)
				}
			case 3:
				at := r.Intn(len(want) + 10)
				if at+n > len(want) {
					is(t, "Set", o.Set(at, n, v), api.ErrRange)
				} else {
					is(t, "Set", o.Set(at, n, v), api.OK)
					want = want[:at] + text(n, v) + want[at+n:]
				}
			}
			shows(t, o, want)
		}
	}
}

// Rule 1: an Out and an In that nobody made are empty ones.
func TestZeroValues(t *testing.T) {
	var o bits.Out
	is(t, "Bits", o.Bits(4, 9), api.OK)
	shows(t, &o, "1001")
	var i bits.In
	stands(t, &i, 0, 0)
	i.Skip(1)
	broken(t, &i, api.ErrRange, 0)
}
