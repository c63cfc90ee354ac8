package talk_test

import (
	"bytes"
	"encoding/hex"
	"math"
	"math/rand"
	"slices"
	"strings"
	"testing"

	"ostiary/api"
	"ostiary/sum"
	"ostiary/talk"
)

// field is one of a message's fields: numbers that may be where a kind has it, the first one other than 0, and such that may not be.
type field struct {
	name      string
	put       func(m *talk.Msg, v uint64)
	good, bad []uint64
}

func signed(n int64) uint64 { return uint64(n) }

// fields are all that are numbers, but for the kind.
var fields = []field{
	{"Xid", func(m *talk.Msg, v uint64) { m.Xid = uint32(v) },
		[]uint64{0x01020304, 0, 1, 1 << 31, math.MaxUint32}, nil},
	{"Mac", func(m *talk.Msg, v uint64) { m.Mac = api.Mac(v) },
		[]uint64{0x0A0B0C0D0E0F, 0, 1, 1 << 47, 1<<48 - 1}, []uint64{1 << 48, 1<<48 + 1, 1 << 49, 1 << 63, math.MaxUint64}},
	{"Ip", func(m *talk.Msg, v uint64) { m.Ip = api.Ip(v) },
		[]uint64{0x11121314, 0, 1, 1 << 31, math.MaxUint32}, nil},
	{"Ticks", func(m *talk.Msg, v uint64) { m.Ticks = int64(v) },
		[]uint64{0x2122232425, 0, 1, 1 << 39, api.MaxTime - 1}, []uint64{api.MaxTime, api.MaxTime + 1, signed(-1), signed(-1 << 40), signed(math.MinInt64), math.MaxInt64}},
	{"Nonce", func(m *talk.Msg, v uint64) { m.Nonce = v },
		[]uint64{0x3132333435363738, 0, 1, 1 << 63, math.MaxUint64}, nil},
	{"Tag", func(m *talk.Msg, v uint64) { m.Tag = v },
		[]uint64{0x4142434445464748, 0, 1, 1 << 63, math.MaxUint64}, nil},
	{"Why", func(m *talk.Msg, v uint64) { m.Why = int(v) },
		[]uint64{0x51, 0, 1, 128, 255}, []uint64{256, 257, 1 << 32, signed(-1), signed(-256), signed(math.MinInt64), math.MaxInt64}},
}

// kinds tells of each kind its number, which fields it has, and the bytes of the message that has the first good number in each.
var kinds = []struct {
	kind  int
	has   string
	bytes string
}{
	{talk.Discover, "Xid Mac", "4F53 01 01020304 0A0B0C0D0E0F"},
	{talk.Offer, "Xid Mac Ip Ticks", "4F53 02 01020304 0A0B0C0D0E0F 11121314 2122232425"},
	{talk.Request, "Xid Mac Ip", "4F53 03 01020304 0A0B0C0D0E0F 11121314"},
	{talk.Granted, "Xid Mac Ip Ticks", "4F53 04 01020304 0A0B0C0D0E0F 11121314 2122232425"},
	{talk.Refused, "Xid Mac Why", "4F53 05 01020304 0A0B0C0D0E0F 51"},
	{talk.Release, "Mac Ip", "4F53 06 0A0B0C0D0E0F 11121314"},
	{talk.Hello, "User", "4F53 07 03616E6E"},
	{talk.Challenge, "User Nonce", "4F53 08 03616E6E 3132333435363738"},
	{talk.Response, "User Nonce Tag", "4F53 09 03616E6E 3132333435363738 4142434445464748"},
	{talk.Accept, "User Ticks", "4F53 0A 2122232425 03616E6E"},
	{talk.Reject, "User Why", "4F53 0B 03616E6E 51"},
	{talk.Logout, "User Nonce Tag", "4F53 0C 03616E6E 3132333435363738 4142434445464748"},
}

var badKinds = []int{math.MinInt, -256, -255, -244, -1, 0, 13, 14, 127, 255, 256, 257, 263, 268, 1<<32 + 7, math.MaxInt}

var (
	goodNames = []string{"a", "z", "ann", "bob", "a0", "z9", "h1", "abcdefgh", "a1234567", "zzzzzzzz", "z9999999", "m5n5", "deny"}
	badNames  = []string{"", "0", "9", "1a", "0123", "abcdefghi", "a12345678", "A", "Z", "aB", "Ann", "anN", "a b", " a", "a ", "a_b", "_", "a-b", "a.b",
		"`", "{", "a`", "a{", "a/", "a:", "/", ":", "\x00", "a\x00", "a\n", "a\x80", "\xff", "a\xffb", "ä", "aä", "äa", "aaaaaaaä", "а", "a٣", "ａ", "１", strings.Repeat("a", 256), strings.Repeat("a", 257), strings.Repeat("a", 264)}
)

func has(list, name string) bool { return slices.Contains(strings.Fields(list), name) }

// full is a message of a kind that has the first good number in each of its fields.
func full(kind int, list string) talk.Msg {
	m := talk.Msg{Kind: kind}
	for _, f := range fields {
		if has(list, f.name) {
			f.put(&m, f.good[0])
		}
	}
	if has(list, "User") {
		m.User = "ann"
	}
	return m
}

// unhex reads bytes that are written as text.
func unhex(t *testing.T, text string) []byte {
	t.Helper()
	b, err := hex.DecodeString(strings.ReplaceAll(text, " ", ""))
	if err != nil {
		t.Fatal(err)
	}
	return b
}

// show tells the first ones of a list's bytes.
func show(b []byte) string {
	if len(b) > 60 {
		return hex.EncodeToString(b[:60]) + ".."
	}
	return hex.EncodeToString(b)
}

// may fails unless the message may be, and is what its bytes are parsed as.
func may(t *testing.T, m talk.Msg) {
	t.Helper()
	if !talk.May(m) {
		t.Errorf("%+v may not be", m)
	}
	b, e := talk.Encode(m)
	if e != api.OK {
		t.Errorf("Encode of %+v: %d", m, e)
	}
	parses(t, b, m, api.OK)
}

func mayNot(t *testing.T, m talk.Msg) {
	t.Helper()
	if talk.May(m) {
		t.Errorf("%+v may be", m)
	}
	if b, e := talk.Encode(m); e != api.ErrArg || len(b) != 0 {
		t.Errorf("Encode of %+v: %x, %d", m, b, e)
	}
}

func parses(t *testing.T, b []byte, want talk.Msg, e api.Errno) {
	t.Helper()
	if m, got := talk.Parse(b); m != want || got != e {
		t.Errorf("Parse of %s: %+v, %d; not %+v, %d", show(b), m, got, want, e)
	}
}

func refuses(t *testing.T, b []byte) {
	t.Helper()
	parses(t, b, talk.Msg{}, api.ErrForm)
}

func TestExample(t *testing.T) {
	b, e := talk.Encode(talk.Msg{Kind: talk.Hello, User: "ann"})
	if want := []byte{0x4F, 0x53, 0x07, 0x03, 0x61, 0x6E, 0x6E}; e != api.OK || !bytes.Equal(b, want) {
		t.Errorf("%x, %d", b, e)
	}
}

func TestKindsAreNumbered(t *testing.T) {
	for i, k := range kinds {
		if k.kind != i+1 {
			t.Errorf("kind %d is number %d", k.kind, i+1)
		}
	}
}

// P7.1.

func TestName(t *testing.T) {
	for _, s := range goodNames {
		if !talk.Name(s) {
			t.Errorf("%q is none", s)
		}
	}
	for _, s := range badNames {
		if talk.Name(s) {
			t.Errorf("%q is one", s)
		}
	}
}

func TestNameOfEachByte(t *testing.T) {
	for c := range 256 {
		s := string([]byte{byte(c)})
		small := c >= 'a' && c <= 'z'
		digit := c >= '0' && c <= '9'
		if talk.Name(s) != small || talk.Name("b"+s) != (small || digit) || talk.Name(s+"b") != small || talk.Name("abcdefg"+s) != (small || digit) {
			t.Errorf("a name with %q", s)
		}
		if talk.Name("abcdefgh" + s) {
			t.Errorf("nine signs with %q", s)
		}
	}
}

func TestNameOfEachLength(t *testing.T) {
	for n := range 300 {
		if talk.Name(strings.Repeat("a", n)) != (n >= 1 && n <= 8) {
			t.Error("length", n)
		}
	}
}

func TestMayOfFullAndEmptyOnes(t *testing.T) {
	for _, k := range kinds {
		may(t, full(k.kind, k.has))
		m := talk.Msg{Kind: k.kind}
		if has(k.has, "User") {
			mayNot(t, m)
			m.User = "a"
		}
		may(t, m)
	}
}

func TestMayOfEachField(t *testing.T) {
	for _, k := range kinds {
		for _, f := range fields {
			for _, v := range f.good {
				m := full(k.kind, k.has)
				f.put(&m, v)
				if has(k.has, f.name) || v == 0 {
					may(t, m)
				} else {
					mayNot(t, m)
				}
			}
			for _, v := range f.bad {
				m := full(k.kind, k.has)
				f.put(&m, v)
				mayNot(t, m)
			}
		}
	}
}

func TestMayOfUsers(t *testing.T) {
	for _, k := range kinds {
		m := full(k.kind, k.has)
		for _, s := range goodNames {
			m.User = s
			if has(k.has, "User") {
				may(t, m)
			} else {
				mayNot(t, m)
			}
		}
		for _, s := range badNames {
			m.User = s
			if s != "" || has(k.has, "User") {
				mayNot(t, m)
			} else {
				may(t, m)
			}
		}
	}
}

func TestMayOfOtherKinds(t *testing.T) {
	for _, kind := range badKinds {
		mayNot(t, talk.Msg{Kind: kind})
		mayNot(t, talk.Msg{Kind: kind, User: "ann"})
		mayNot(t, full(kind, "Xid Mac Ip Ticks"))
		mayNot(t, full(kind, "Xid Mac Ip Ticks User Nonce Tag Why"))
	}
}

func TestEncodeAndParseByHand(t *testing.T) {
	for _, k := range kinds {
		m, want := full(k.kind, k.has), unhex(t, k.bytes)
		if b, e := talk.Encode(m); e != api.OK || !bytes.Equal(b, want) {
			t.Errorf("Encode of %+v: %x, %d; not %x", m, b, e, want)
		}
		parses(t, want, m, api.OK)
	}
}

func TestEncodeAndParseAtTheEdges(t *testing.T) {
	for _, c := range []struct {
		m    talk.Msg
		want string
	}{
		{talk.Msg{Kind: talk.Discover}, "4F53 01 00000000 000000000000"},
		{talk.Msg{Kind: talk.Offer, Xid: math.MaxUint32, Mac: api.Anybody, Ip: math.MaxUint32, Ticks: api.MaxTime - 1},
			"4F53 02 FFFFFFFF FFFFFFFFFFFF FFFFFFFF FFFFFFFFFF"},
		{talk.Msg{Kind: talk.Refused, Xid: 1, Mac: 2, Why: 255}, "4F53 05 00000001 000000000002 FF"},
		{talk.Msg{Kind: talk.Refused}, "4F53 05 00000000 000000000000 00"},
		{talk.Msg{Kind: talk.Response, User: "a2345678", Nonce: math.MaxUint64}, "4F53 09 086132333435363738 FFFFFFFFFFFFFFFF 0000000000000000"},
		{talk.Msg{Kind: talk.Logout, User: "z", Tag: math.MaxUint64}, "4F53 0C 017A 0000000000000000 FFFFFFFFFFFFFFFF"},
		{talk.Msg{Kind: talk.Accept, User: "z", Ticks: 1}, "4F53 0A 0000000001 017A"},
	} {
		want := unhex(t, c.want)
		if b, e := talk.Encode(c.m); e != api.OK || !bytes.Equal(b, want) {
			t.Errorf("Encode of %+v: %x, %d; not %x", c.m, b, e, want)
		}
		parses(t, want, c.m, api.OK)
	}
}

func TestParseOfOtherLengths(t *testing.T) {
	for _, k := range kinds {
		b := unhex(t, k.bytes)
		for n := range b {
			refuses(t, b[:n])
		}
		for n := 1; n < 70; n++ {
			refuses(t, append(slices.Clone(b), make([]byte, n)...))
		}
		refuses(t, append(slices.Clone(b), b...))
		refuses(t, append(slices.Clone(b), bytes.Repeat([]byte{0xFF}, 1<<16)...))
	}
	refuses(t, nil)
	refuses(t, []byte{})
	refuses(t, make([]byte, 1<<20))
}

func TestParseOfOtherMarks(t *testing.T) {
	for _, k := range kinds {
		for bit := range 16 {
			b := unhex(t, k.bytes)
			b[bit/8] ^= 1 << (bit % 8)
			refuses(t, b)
		}
		b := unhex(t, k.bytes)
		b[0], b[1] = b[1], b[0]
		refuses(t, b)
	}
}

func TestParseOfOtherKinds(t *testing.T) {
	for kind := range 256 {
		if kind >= talk.Discover && kind <= talk.Logout {
			continue
		}
		refuses(t, []byte{0x4F, 0x53, byte(kind)})
		for _, k := range kinds {
			b := unhex(t, k.bytes)
			b[2] = byte(kind)
			refuses(t, b)
		}
	}
}

// A kind's bytes are another one's only where both have as many bits, and no user, or one in the same place.
func TestParseOfTheBytesOfAnotherKind(t *testing.T) {
	alike := map[[2]int]talk.Msg{
		{talk.Offer, talk.Granted}:    full(talk.Granted, "Xid Mac Ip Ticks"),
		{talk.Granted, talk.Offer}:    full(talk.Offer, "Xid Mac Ip Ticks"),
		{talk.Response, talk.Logout}:  full(talk.Logout, "User Nonce Tag"),
		{talk.Logout, talk.Response}:  full(talk.Response, "User Nonce Tag"),
		{talk.Discover, talk.Release}: {Kind: talk.Release, Mac: 0x010203040A0B, Ip: 0x0C0D0E0F},
		{talk.Release, talk.Discover}: {Kind: talk.Discover, Xid: 0x0A0B0C0D, Mac: 0x0E0F11121314},
	}
	for _, from := range kinds {
		for _, to := range kinds {
			b := unhex(t, from.bytes)
			b[2] = byte(to.kind)
			if from.kind == to.kind {
				parses(t, b, full(to.kind, to.has), api.OK)
			} else if m, ok := alike[[2]int{from.kind, to.kind}]; ok {
				parses(t, b, m, api.OK)
			} else {
				refuses(t, b)
			}
		}
	}
}

func TestParseOfUsers(t *testing.T) {
	for _, s := range append(slices.Clone(goodNames), badNames...) {
		if len(s) > 255 {
			continue
		}
		user := append([]byte{byte(len(s))}, s...)
		tail := bytes.Repeat([]byte{7}, 8)
		for kind, behind := range map[int][]byte{talk.Hello: nil, talk.Challenge: tail, talk.Reject: tail[:1]} {
			b := slices.Concat([]byte{0x4F, 0x53, byte(kind)}, user, behind)
			if !talk.Name(s) {
				refuses(t, b)
				continue
			}
			want := talk.Msg{Kind: kind, User: s}
			switch kind {
			case talk.Challenge:
				want.Nonce = 0x0707070707070707
			case talk.Reject:
				want.Why = 7
			}
			parses(t, b, want, api.OK)
		}
	}
}

func TestParseOfUsersOfOtherLengths(t *testing.T) {
	for n := range 256 {
		b := append([]byte{0x4F, 0x53, talk.Hello, byte(n)}, "annabel"...)
		if n == 7 {
			parses(t, b, talk.Msg{Kind: talk.Hello, User: "annabel"}, api.OK)
		} else {
			refuses(t, b)
		}
		if n > 8 {
			refuses(t, append([]byte{0x4F, 0x53, talk.Hello, byte(n)}, strings.Repeat("a", n)...))
		}
	}
}

func TestLeases(t *testing.T) {
	for _, k := range kinds {
		if talk.Leases(k.kind) != (k.kind <= 6) {
			t.Error("kind", k.kind)
		}
	}
	for _, kind := range badKinds {
		if talk.Leases(kind) {
			t.Error("kind", kind)
		}
	}
}

// P7.2.

func proves(t *testing.T, k talk.Key, kind int, user string, nonce uint64, mac api.Mac, ip api.Ip, of ...[]byte) {
	t.Helper()
	if got, want := talk.Proof(k, kind, user, nonce, mac, ip), sum.Tag(k.A, k.B, of...); got != want {
		t.Errorf("Proof of kind %d, a user of %d bytes, %x, %x, %x: %x, not %x", kind, len(user), nonce, mac, ip, got, want)
	}
}

func TestProof(t *testing.T) {
	k := talk.Key{A: 0x0706050403020100, B: 0x0F0E0D0C0B0A0908}
	proves(t, k, talk.Response, "ann", 0x3132333435363738, 0x0A0B0C0D0E0F, 0x11121314,
		unhex(t, "09 03616E6E 3132333435363738 0A0B0C0D0E0F 11121314"))
	if p := talk.Proof(k, talk.Response, "ann", 0x3132333435363738, 0x0A0B0C0D0E0F, 0x11121314); p != 0xC4FE11BD03C600D8 { // reckoned without package sum
		t.Errorf("%x", p)
	}
	proves(t, k, talk.Logout, "a2345678", 1, 2, 3,
		unhex(t, "0C 086132333435363738 0000000000000001 000000000002 00000003"))
	proves(t, talk.Key{}, 0, "", 0, 0, 0, make([]byte, 20))
	proves(t, talk.Key{A: math.MaxUint64, B: 1}, 255, "z", math.MaxUint64, api.Anybody, math.MaxUint32,
		unhex(t, "FF 017A FFFFFFFFFFFFFFFF FFFFFFFFFFFF FFFFFFFF"))
}

func TestEachArgumentOfProofCounts(t *testing.T) {
	a := talk.Proof(talk.Key{A: 1, B: 2}, talk.Response, "ann", 3, 4, 5)
	for what, b := range map[string]uint64{
		"the key's parts": talk.Proof(talk.Key{A: 2, B: 1}, talk.Response, "ann", 3, 4, 5),
		"A":               talk.Proof(talk.Key{A: 9, B: 2}, talk.Response, "ann", 3, 4, 5),
		"B":               talk.Proof(talk.Key{A: 1, B: 9}, talk.Response, "ann", 3, 4, 5),
		"the kind":        talk.Proof(talk.Key{A: 1, B: 2}, talk.Logout, "ann", 3, 4, 5),
		"the user":        talk.Proof(talk.Key{A: 1, B: 2}, talk.Response, "bob", 3, 4, 5),
		"the nonce":       talk.Proof(talk.Key{A: 1, B: 2}, talk.Response, "ann", 9, 4, 5),
		"the Mac":         talk.Proof(talk.Key{A: 1, B: 2}, talk.Response, "ann", 3, 9, 5),
		"the Ip":          talk.Proof(talk.Key{A: 1, B: 2}, talk.Response, "ann", 3, 4, 9),
	} {
		if a == b {
			t.Errorf("%s plays no part", what)
		}
	}
}

func TestProofOfWhatHasMoreBits(t *testing.T) {
	k := talk.Key{A: 5, B: 6}
	tail := unhex(t, "0000000000000007 000000000008 00000009")
	for kind, low := range map[int]byte{-1: 255, -256: 0, -247: 9, 256: 0, 265: 9, 1<<40 + 9: 9, math.MinInt: 0, math.MaxInt: 255} {
		proves(t, k, kind, "ann", 7, 8, 9, []byte{low}, unhex(t, "03616E6E"), tail)
	}
	for _, mac := range []api.Mac{1<<48 | 8, 0xFFFF<<48 | 8, 1<<63 | 8} {
		proves(t, k, 9, "ann", 7, mac, 9, unhex(t, "09 03616E6E"), tail)
	}
}

// A user that is no name is taken as he is, however long: longer than a list of bits can be, too.
func TestProofOfAnyUser(t *testing.T) {
	k := talk.Key{A: 5, B: 6}
	tail := unhex(t, "0000000000000007 000000000008 00000009")
	for _, n := range []int{0, 1, 8, 9, 254, 255, 256, 257, 511, 512, 65509, 65534, 65535, 65536, 65537, 70000, 1 << 20} {
		user := strings.Repeat("u", n)
		proves(t, k, 9, user, 7, 8, 9, []byte{9, byte(n)}, []byte(user), tail)
	}
	for _, user := range append(slices.Clone(badNames), "\x00\x01\xFE\xFF", "äöü") {
		proves(t, k, 9, user, 7, 8, 9, []byte{9, byte(len(user))}, []byte(user), tail)
	}
}

// P7.3.

// chance is a message that may be; its numbers are few, so that messages are alike in many fields.
func chance(rnd *rand.Rand) talk.Msg {
	k := kinds[rnd.Intn(len(kinds))]
	m := talk.Msg{Kind: k.kind}
	for _, f := range fields {
		if has(k.has, f.name) {
			f.put(&m, f.good[rnd.Intn(len(f.good))])
		}
	}
	if has(k.has, "User") {
		m.User = goodNames[rnd.Intn(len(goodNames))]
	}
	return m
}

func TestBack(t *testing.T) {
	rnd := rand.New(rand.NewSource(1))
	seen := map[string]talk.Msg{}
	for range 20000 {
		m := chance(rnd)
		b, e := talk.Encode(m)
		if e != api.OK {
			t.Fatalf("Encode of %+v: %d", m, e)
		}
		parses(t, b, m, api.OK)
		if was, ok := seen[string(b)]; ok && was != m {
			t.Errorf("%+v and %+v are %x", was, m, b)
		}
		seen[string(b)] = m
	}
}

// Whatever bytes are parsed as a message, they are that message's.
func TestForth(t *testing.T) {
	rnd := rand.New(rand.NewSource(2))
	for range 50000 {
		b, _ := talk.Encode(chance(rnd))
		for range 1 + rnd.Intn(3) {
			switch at := rnd.Intn(len(b)); rnd.Intn(4) {
			case 0:
				b[at] ^= 1 << rnd.Intn(8)
			case 1:
				b[at] = byte(rnd.Intn(256))
			case 2:
				b = slices.Delete(b, at, at+1)
			case 3:
				b = slices.Insert(b, at, byte(rnd.Intn(256)))
			}
			if len(b) == 0 {
				b = []byte{0x4F}
			}
		}
		m, e := talk.Parse(b)
		if e != api.OK {
			refuses(t, b)
			continue
		}
		if back, e := talk.Encode(m); e != api.OK || !bytes.Equal(back, b) {
			t.Errorf("%x is parsed as %+v, %x, %d", b, m, back, e)
		}
	}
}

// P1, and the rules that hold everywhere.

func TestBytesByChance(t *testing.T) {
	rnd := rand.New(rand.NewSource(3))
	for range 20000 {
		b := make([]byte, rnd.Intn(40))
		rnd.Read(b)
		if rnd.Intn(2) == 0 && len(b) > 2 {
			b[0], b[1], b[2] = 0x4F, 0x53, byte(rnd.Intn(14))
		}
		if m, e := talk.Parse(b); e == api.OK && !talk.May(m) {
			t.Errorf("%x is %+v", b, m)
		} else if e != api.OK {
			refuses(t, b)
		}
	}
}

func TestNoListIsChangedOrShared(t *testing.T) {
	m := talk.Msg{Kind: talk.Challenge, User: "ann", Nonce: 7}
	a, _ := talk.Encode(m)
	b, _ := talk.Encode(m)
	clear(a)
	parses(t, b, m, api.OK)
	was := slices.Clone(b)
	got, _ := talk.Parse(b)
	if !bytes.Equal(b, was) {
		t.Errorf("Parse changed its bytes: %x", b)
	}
	clear(b)
	if got != m {
		t.Errorf("what was parsed is %+v now", got)
	}
}
