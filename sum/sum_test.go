package sum_test

import (
	"bytes"
	"encoding/binary"
	"hash/crc32"
	"math"
	"math/bits"
	"math/rand"
	"testing"

	"ostiary/sum"
)

// The key of the example, whose bytes are 0 to 15.
const (
	keyA = 0x0706050403020100
	keyB = 0x0F0E0D0C0B0A0908
)

// lengths are counts of bytes at which something begins anew: a word of 8, the count modulo 256.
var lengths = []int{0, 1, 2, 3, 6, 7, 8, 9, 15, 16, 17, 23, 24, 25, 63, 64, 65, 255, 256, 257, 263, 264, 511, 512, 513, 1024}

// rising has the bytes 0, 1, 2 and so on.
func rising(n int) []byte {
	l := make([]byte, n)
	for i := range l {
		l[i] = byte(i)
	}
	return l
}

func chance(rnd *rand.Rand, n int) []byte {
	l := make([]byte, n)
	rnd.Read(l)
	return l
}

func nets(t *testing.T, want uint16, parts ...[]byte) {
	t.Helper()
	if got := sum.Net(parts...); got != want {
		t.Errorf("Net(%x): %04X, not %04X", parts, got, want)
	}
}

func crcs(t *testing.T, want uint32, parts ...[]byte) {
	t.Helper()
	if got := sum.Crc(parts...); got != want {
		t.Errorf("Crc(%x): %08X, not %08X", parts, got, want)
	}
}

func tags(t *testing.T, want, a, b uint64, parts ...[]byte) {
	t.Helper()
	if got := sum.Tag(a, b, parts...); got != want {
		t.Errorf("Tag(%X, %X, %x): %016X, not %016X", a, b, parts, got, want)
	}
}

func TestExample(t *testing.T) {
	nets(t, 0x220D, []byte{0x00, 0x01, 0xF2, 0x03, 0xF4, 0xF5, 0xF6, 0xF7})
	crcs(t, 0xCBF43926, []byte("123456789"))
	tags(t, 0xA129CA6149BE45E5, keyA, keyB, rising(15))
}

// P3.1.

func TestNetOfNothing(t *testing.T) {
	nets(t, 0xFFFF)
	nets(t, 0xFFFF, nil)
	nets(t, 0xFFFF, []byte{})
	nets(t, 0xFFFF, nil, []byte{}, nil)
	nets(t, 0xFFFF, []byte{0})
	nets(t, 0xFFFF, make([]byte, 100))
}

func TestNetOfOddBytes(t *testing.T) {
	nets(t, ^uint16(0x1200), []byte{0x12})
	nets(t, ^uint16(0x1234+0x5600), []byte{0x12, 0x34, 0x56})
	nets(t, 0x00FF, []byte{0xFF})
}

// An odd part does not end a number: the next part's first byte is its lower one.
func TestNetOfAnOddPartAheadOfAnother(t *testing.T) {
	nets(t, ^uint16(0x1234), []byte{0x12}, []byte{0x34})
	nets(t, ^uint16(0x1234), []byte{0x12}, nil, []byte{}, []byte{0x34})
	nets(t, ^uint16(0x1234+0x5678), []byte{0x12, 0x34, 0x56}, []byte{0x78})
	nets(t, ^uint16(0x1234+0x5600), []byte{0x12}, []byte{0x34, 0x56})
	nets(t, ^uint16(0x0102+0x0304+0x0500), []byte{1}, []byte{2, 3, 4}, []byte{5})
}

func TestNetCarries(t *testing.T) {
	nets(t, 0, []byte{0xFF, 0xFF})
	nets(t, 0, []byte{0xFF, 0xFF, 0xFF, 0xFF})
	nets(t, ^uint16(1), []byte{0xFF, 0xFF, 0, 1})
	nets(t, ^uint16(0xFFFE), []byte{0xFF, 0xFE})
	nets(t, ^uint16(2), []byte{0x80, 0, 0x80, 1})
}

// Here what was added again goes beyond sixteen bits once more: 1FFFF, then 10000, then 1.
func TestNetCarriesMoreThanOnce(t *testing.T) {
	nets(t, 0xFFFE, []byte{0xFF, 0xFF, 0xFF, 0xFF, 0, 1})
	nets(t, 0xFFFE, []byte{0xFF, 0xFF, 0xFF, 0xFF}, []byte{0, 1})
	nets(t, 0xFFFE, []byte{0xFF, 0xFF, 0xFF, 0xFF, 0xFF, 0xFE, 0, 2})
}

// So many that the carries alone go beyond sixteen bits.
func TestNetOfManyBytes(t *testing.T) {
	nets(t, 0, bytes.Repeat([]byte{0xFF}, 1<<18))
	nets(t, ^uint16(5), bytes.Repeat([]byte{0xFF}, 1<<18), []byte{0, 5})
	nets(t, 0x00FF, bytes.Repeat([]byte{0xFF}, 1<<18+1))
}

// netOf adds one number after the other, and each carry at once.
func netOf(l []byte) uint16 {
	var s uint32
	for i := 0; i < len(l); i += 2 {
		n := uint32(l[i]) * 256
		if i+1 < len(l) {
			n += uint32(l[i+1])
		}
		if s += n; s > 0xFFFF {
			s -= 0xFFFF
		}
	}
	return uint16(0xFFFF - s)
}

func TestNetOfEachLength(t *testing.T) {
	rnd := rand.New(rand.NewSource(1))
	for _, n := range lengths {
		nets(t, netOf(rising(n)), rising(n))
		for range 20 {
			l := chance(rnd, n)
			nets(t, netOf(l), l)
		}
	}
}

// P3.2.

func TestCrcOfNothing(t *testing.T) {
	crcs(t, 0)
	crcs(t, 0, nil)
	crcs(t, 0, nil, []byte{}, nil)
}

func TestCrcKnown(t *testing.T) {
	crcs(t, 0xD202EF8D, []byte{0})
	crcs(t, 0xFF000000, []byte{0xFF})
	crcs(t, 0xFFFFFFFF, []byte{0xFF, 0xFF, 0xFF, 0xFF})
	crcs(t, 0x2144DF1C, make([]byte, 4))
	crcs(t, 0xE8B7BE43, []byte("a"))
	crcs(t, 0x414FA339, []byte("The quick brown fox jumps over the lazy dog"))
}

// crcBitByBit is as the document says it, a word and a message's bit at a time.
func crcBitByBit(l []byte) uint32 {
	w := uint32(math.MaxUint32)
	for i := range 8 * len(l) {
		bit := uint32(l[i/8]) >> (i % 8) & 1
		if w&1 != bit {
			w = w>>1 ^ 0xEDB88320
		} else {
			w = w >> 1
		}
	}
	return ^w
}

func TestCrcOfEachLength(t *testing.T) {
	rnd := rand.New(rand.NewSource(2))
	for _, n := range lengths {
		for _, l := range [][]byte{rising(n), make([]byte, n), chance(rnd, n), chance(rnd, n)} {
			crcs(t, crc32.ChecksumIEEE(l), l)
			crcs(t, crcBitByBit(l), l)
		}
	}
	for c := range 256 {
		crcs(t, crc32.ChecksumIEEE([]byte{byte(c)}), []byte{byte(c)})
	}
}

// P3.3.

// known are the tags of the bytes 0, 1, 2 and so on, none at first, as those who made SipHash tell them.
var known = [64]uint64{
	0x726FDB47DD0E0E31, 0x74F839C593DC67FD, 0x0D6C8009D9A94F5A, 0x85676696D7FB7E2D,
	0xCF2794E0277187B7, 0x18765564CD99A68D, 0xCBC9466E58FEE3CE, 0xAB0200F58B01D137,
	0x93F5F5799A932462, 0x9E0082DF0BA9E4B0, 0x7A5DBBC594DDB9F3, 0xF4B32F46226BADA7,
	0x751E8FBC860EE5FB, 0x14EA5627C0843D90, 0xF723CA908E7AF2EE, 0xA129CA6149BE45E5,
	0x3F2ACC7F57C29BDB, 0x699AE9F52CBE4794, 0x4BC1B3F0968DD39C, 0xBB6DC91DA77961BD,
	0xBED65CF21AA2EE98, 0xD0F2CBB02E3B67C7, 0x93536795E3A33E88, 0xA80C038CCD5CCEC8,
	0xB8AD50C6F649AF94, 0xBCE192DE8A85B8EA, 0x17D835B85BBB15F3, 0x2F2E6163076BCFAD,
	0xDE4DAAACA71DC9A5, 0xA6A2506687956571, 0xAD87A3535C49EF28, 0x32D892FAD841C342,
	0x7127512F72F27CCE, 0xA7F32346F95978E3, 0x12E0B01ABB051238, 0x15E034D40FA197AE,
	0x314DFFBE0815A3B4, 0x027990F029623981, 0xCADCD4E59EF40C4D, 0x9ABFD8766A33735C,
	0x0E3EA96B5304A7D0, 0xAD0C42D6FC585992, 0x187306C89BC215A9, 0xD4A60ABCF3792B95,
	0xF935451DE4F21DF2, 0xA9538F0419755787, 0xDB9ACDDFF56CA510, 0xD06C98CD5C0975EB,
	0xE612A3CB9ECBA951, 0xC766E62CFCADAF96, 0xEE64435A9752FE72, 0xA192D576B245165A,
	0x0A8787BF8ECB74B2, 0x81B3E73D20B49B6F, 0x7FA8220BA3B2ECEA, 0x245731C13CA42499,
	0xB78DBFAF3A8D83BD, 0xEA1AD565322A1A0B, 0x60E61C23A3795013, 0x6606D7E446282B93,
	0x6CA4ECB15C5F91E1, 0x9F626DA15C9625F3, 0xE51B38608EF25F57, 0x958A324CEB064572,
}

func TestTagKnown(t *testing.T) {
	for n, want := range known {
		tags(t, want, keyA, keyB, rising(n))
	}
	tags(t, known[0], keyA, keyB)
	tags(t, known[0], keyA, keyB, nil, []byte{})
}

// tagOf is SipHash-2-4 over whole words that are laid out ahead, each half of a round beside the other one.
func tagOf(a, b uint64, l []byte) uint64 {
	v0, v1, v2, v3 := a^0x736F6D6570736575, b^0x646F72616E646F6D, a^0x6C7967656E657261, b^0x7465646279746573
	round := func() {
		v0, v2 = v0+v1, v2+v3
		v1, v3 = bits.RotateLeft64(v1, 13)^v0, bits.RotateLeft64(v3, 16)^v2
		v0 = bits.RotateLeft64(v0, 32)
		v2, v0 = v2+v1, v0+v3
		v1, v3 = bits.RotateLeft64(v1, 17)^v2, bits.RotateLeft64(v3, 21)^v0
		v2 = bits.RotateLeft64(v2, 32)
	}
	full := make([]byte, (len(l)/8+1)*8)
	copy(full, l)
	full[len(full)-1] = byte(len(l))
	for ; len(full) > 0; full = full[8:] {
		m := binary.LittleEndian.Uint64(full)
		v3 ^= m
		round()
		round()
		v0 ^= m
	}
	v2 ^= 0xFF
	for range 4 {
		round()
	}
	return v0 ^ v1 ^ v2 ^ v3
}

func TestTagOfEachLength(t *testing.T) {
	rnd := rand.New(rand.NewSource(3))
	for _, n := range lengths {
		for _, k := range [][2]uint64{{keyA, keyB}, {0, 0}, {math.MaxUint64, math.MaxUint64}, {1 << 63, 1}, {rnd.Uint64(), rnd.Uint64()}} {
			for _, l := range [][]byte{rising(n), make([]byte, n), bytes.Repeat([]byte{0xFF}, n), chance(rnd, n)} {
				tags(t, tagOf(k[0], k[1], l), k[0], k[1], l)
			}
		}
	}
}

// Noughts alone: but for the count in the last word, these bytes were the same.
func TestTagHangsOnTheCount(t *testing.T) {
	seen := map[uint64]int{}
	for n := range 600 {
		v := sum.Tag(1, 2, make([]byte, n))
		if m, ok := seen[v]; ok {
			t.Errorf("%d and %d noughts have the same tag", m, n)
		}
		seen[v] = n
	}
}

func TestTagHangsOnBothWords(t *testing.T) {
	l := []byte("who knows a secret")
	want := sum.Tag(keyA, keyB, l)
	for k := range 64 {
		if sum.Tag(keyA^1<<k, keyB, l) == want || sum.Tag(keyA, keyB^1<<k, l) == want {
			t.Errorf("bit %d of a key plays no part", k)
		}
	}
	if sum.Tag(keyB, keyA, l) == want {
		t.Error("a and b play the same part")
	}
}

// P3.4.

// cut lays bytes into parts of any lengths, empty ones and nil among them.
func cut(rnd *rand.Rand, l []byte) [][]byte {
	var parts [][]byte
	for len(l) > 0 {
		if rnd.Intn(4) == 0 {
			parts = append(parts, nil, []byte{})
		}
		n := 1 + rnd.Intn(min(len(l), 20))
		parts = append(parts, l[:n])
		l = l[n:]
	}
	return append(parts, nil)
}

// same fails unless all three sums of these parts are those of the bytes as one.
func same(t *testing.T, l []byte, parts ...[]byte) {
	t.Helper()
	nets(t, sum.Net(l), parts...)
	crcs(t, sum.Crc(l), parts...)
	tags(t, sum.Tag(3, 4, l), 3, 4, parts...)
}

func TestPartsPlayNoPart(t *testing.T) {
	rnd := rand.New(rand.NewSource(4))
	for _, n := range lengths {
		l := chance(rnd, n)
		for range 20 {
			same(t, l, cut(rnd, l)...)
		}
		single := make([][]byte, n)
		for i := range l {
			single[i] = l[i : i+1]
		}
		same(t, l, single...)
	}
	l := chance(rnd, 33)
	for i := range l {
		same(t, l, l[:i], l[i:])
		for k := range i {
			same(t, l, l[:k], l[k:i], nil, l[i:])
		}
	}
}

// P3.5.

func TestOneBitTurnedHasAnotherCrc(t *testing.T) {
	rnd := rand.New(rand.NewSource(5))
	for _, n := range lengths {
		l := chance(rnd, n)
		want := sum.Crc(l)
		for i := range 8 * n {
			l[i/8] ^= 1 << (i % 8)
			if sum.Crc(l) == want {
				t.Errorf("%d bytes, bit %d turned: the same Crc", n, i)
			}
			l[i/8] ^= 1 << (i % 8)
		}
		crcs(t, want, l)
	}
}

func TestNetOfWhatHasItsSum(t *testing.T) {
	rnd := rand.New(rand.NewSource(6))
	for _, n := range lengths {
		for _, l := range [][]byte{rising(n), make([]byte, n), bytes.Repeat([]byte{0xFF}, n), chance(rnd, n), chance(rnd, n)} {
			for at := 0; at+2 <= n; at += 2 {
				old := binary.BigEndian.Uint16(l[at:])
				binary.BigEndian.PutUint16(l[at:], 0)
				binary.BigEndian.PutUint16(l[at:], sum.Net(l))
				nets(t, 0, l)
				nets(t, 0, l[:at+1], l[at+1:])
				binary.BigEndian.PutUint16(l[at:], old)
			}
		}
	}
}

// Rules 4 to 6 of those that hold everywhere.

func TestNothingIsChangedOrKept(t *testing.T) {
	a, b := rising(9), rising(300)
	parts := [][]byte{a, nil, b}
	n, c, g := sum.Net(parts...), sum.Crc(parts...), sum.Tag(1, 2, parts...)
	if !bytes.Equal(a, rising(9)) || !bytes.Equal(b, rising(300)) || len(parts) != 3 || parts[1] != nil {
		t.Fatal("what was handed in was changed")
	}
	a[0], b[299] = 7, 7
	same(t, append(bytes.Clone(a), b...), parts...)
	if sum.Net(parts...) == n || sum.Crc(parts...) == c || sum.Tag(1, 2, parts...) == g {
		t.Error("a sum of what was handed in earlier")
	}
	a[0], b[299] = 0, 43
	nets(t, n, parts...)
	crcs(t, c, parts...)
	tags(t, g, 1, 2, parts...)
}

// What stands behind a part is none of it.
func TestNothingBehindAPartIsRead(t *testing.T) {
	l := rising(40)
	same(t, append(rising(3), 20, 21), l[:3], l[20:22])
}
