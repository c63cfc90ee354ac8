package ctl_test

import (
	"bytes"
	"encoding/binary"
	"encoding/hex"
	"hash/crc32"
	"math"
	"math/rand"
	"slices"
	"strings"
	"testing"

	"ostiary/api"
	"ostiary/ctl"
)

// field is one of a message's fields: numbers that may be where a kind has it, the first one other than 0; such that may not be; and whether it needs another one than 0 there.
type field struct {
	name      string
	put       func(m *ctl.Msg, v int)
	good, bad []int
	needs     bool
}

var (
	farBytes = []int{256, 257, 65536, 1 << 32, 1<<32 + 1, -1, -255, -256, math.MinInt, math.MaxInt}
	farWords = []int{65536, 65537, 1 << 32, 1<<32 + 1, -1, -65535, -65536, math.MinInt, math.MaxInt}
	farOnes  = append([]int{0, 9, 10, 255, -8}, farBytes...) // where 1 to 8 may be
)

// fields are all that are numbers, but for the kind.
var fields = []field{
	{"Sw", func(m *ctl.Msg, v int) { m.Sw = v }, []int{3, 1, 2, 7, 8}, farOnes, true},
	{"Life", func(m *ctl.Msg, v int) { m.Life = uint32(v) }, []int{0x01020304, 0, 1, 1 << 31, math.MaxUint32}, nil, false},
	{"Epoch", func(m *ctl.Msg, v int) { m.Epoch = uint32(v) }, []int{0x11121314, 0, 1, 1 << 31, math.MaxUint32}, nil, false},
	{"Seq", func(m *ctl.Msg, v int) { m.Seq = uint32(v) }, []int{0x21222324, 0, 1, 1 << 31, math.MaxUint32}, nil, false},
	{"Port", func(m *ctl.Msg, v int) { m.Port = v }, []int{4, 1, 2, 7, 8}, farOnes, true},
	{"Out", func(m *ctl.Msg, v int) { m.Out = v }, []int{5, 1, 2, 7, 8}, farOnes, true},
	{"Buf", func(m *ctl.Msg, v int) { m.Buf = v }, []int{0x31, 0, 1, 128, 255}, farBytes, false},
	{"Enter", func(m *ctl.Msg, v int) { m.Enter = v == 1 }, []int{1, 0}, nil, false},
	{"Last", func(m *ctl.Msg, v int) { m.Last = v == 1 }, []int{1, 0}, nil, false},
	{"Idle", func(m *ctl.Msg, v int) { m.Idle = v }, []int{0x4142, 0, 1, 255, 256, 32768, 65535}, farWords, false},
	{"Hard", func(m *ctl.Msg, v int) { m.Hard = v }, []int{0x4344, 0, 1, 255, 256, 32768, 65535}, farWords, false},
	{"Ports", func(m *ctl.Msg, v int) { m.Ports = v }, []int{0x51, 0, 1, 128, 255}, farBytes, false},
	{"Peer", func(m *ctl.Msg, v int) { m.Peer.Sw = v }, []int{6, 1, 2, 7, 8}, farOnes, true},
	{"Peer", func(m *ctl.Msg, v int) { m.Peer.Port = v }, []int{7, 1, 2, 6, 8}, farOnes, true},
}

// kinds tells of each kind its number, which fields it has beside Sw and Life, whether it goes up, and, without mark, length and sum, the bytes of the message that has the first good number in each.
var kinds = []struct {
	kind  int
	has   string
	up    bool
	bytes string
}{
	{ctl.Join, "Ports", true, "01 03 01020304 51"},
	{ctl.Alive, "Epoch Seq", true, "02 03 01020304 11121314 21222324"},
	{ctl.Miss, "Epoch Port Buf Frame", true, "03 03 01020304 11121314 04 31 616263"},
	{ctl.Done, "Epoch Seq", true, "04 03 01020304 11121314 21222324"},
	{ctl.Changed, "Ports", true, "05 03 01020304 51"},
	{ctl.Seen, "Port Peer", true, "06 03 01020304 04 06 07"},
	{ctl.Welcome, "Epoch Seq", false, "07 03 01020304 11121314 21222324"},
	{ctl.Ping, "Epoch Seq", false, "08 03 01020304 11121314 21222324"},
	{ctl.Add, "Epoch Seq Port Out Enter Last Idle Hard Key", false,
		"09 03 01020304 11121314 21222324 04 05 C0 4142 4344 0A0000000001 0B0000000002 0A000001 0A000002 06 0FA0 0050"},
	{ctl.Flush, "Epoch Seq", false, "0A 03 01020304 11121314 21222324"},
	{ctl.Send, "Epoch Port Frame", false, "0B 03 01020304 11121314 04 616263"},
	{ctl.Free, "Buf", false, "0C 03 01020304 31"},
	{ctl.Probe, "Port", false, "0D 03 01020304 04"},
}

var badKinds = []int{math.MinInt, -256, -255, -243, -1, 0, 14, 15, 16, 127, 128, 255, 256, 257, 264, 1<<32 + 8, math.MaxInt}

var goodKey = api.Key{Src: 0x0A0000000001, Dst: 0x0B0000000002, SrcIp: 0x0A000001, DstIp: 0x0A000002, Proto: api.Tcp, Sport: 4000, Dport: 80}

// badKeys are such that may not be as layer 6 says.
var badKeys = []api.Key{
	{Src: 1 << 48}, {Dst: 1 << 48}, {Src: math.MaxUint64}, {Proto: 256}, {Proto: -1}, {Proto: 256 + api.Tcp},
	{Sport: 1}, {Dport: 1}, {Proto: 1, Sport: 1}, {Proto: 16, Dport: 80},
	{Proto: api.Tcp, Sport: 65536}, {Proto: api.Udp, Dport: -1}, {Proto: api.Udp, Dport: 1<<32 + 80},
}

func has(list, name string) bool {
	return name == "Sw" || name == "Life" || slices.Contains(strings.Fields(list), name)
}

// full is a message of a kind that has the first good number in each of its fields.
func full(kind int, list string) ctl.Msg {
	m := ctl.Msg{Kind: kind}
	for _, f := range fields {
		if has(list, f.name) {
			f.put(&m, f.good[0])
		}
	}
	if has(list, "Key") {
		m.Key = goodKey
	}
	if has(list, "Frame") {
		m.Frame = []byte("abc")
	}
	return m
}

// least is one with the least that may be.
func least(kind int, list string) ctl.Msg {
	m := ctl.Msg{Kind: kind}
	for _, f := range fields {
		if has(list, f.name) && f.needs {
			f.put(&m, 1)
		}
	}
	if has(list, "Frame") {
		m.Frame = []byte{0}
	}
	return m
}

// sealed puts mark, length and sum around a message's bytes.
func sealed(body []byte) []byte {
	b := append([]byte{0xC0, 0xDE, 0, 0}, body...)
	binary.BigEndian.PutUint16(b[2:], uint16(len(b)+4))
	return binary.BigEndian.AppendUint32(b, crc32.ChecksumIEEE(b))
}

// resealed puts the sum anew behind bytes that were written into.
func resealed(b []byte) []byte {
	n := len(b) - 4
	return binary.BigEndian.AppendUint32(slices.Clone(b[:n]), crc32.ChecksumIEEE(b[:n]))
}

// unhex reads bytes that are written as text.
func unhex(t *testing.T, text string) []byte {
	t.Helper()
	b, err := hex.DecodeString(strings.ReplaceAll(text, " ", ""))
	if err != nil {
		t.Fatal(err)
	}
	return b
}

// show tells the first ones of a list's bytes.
func show(b []byte) string {
	if len(b) > 60 {
		return hex.EncodeToString(b[:60]) + ".."
	}
	return hex.EncodeToString(b)
}

// alike holds two against one another without Same, which is tested itself.
func alike(a, b ctl.Msg) bool {
	return a.Kind == b.Kind && a.Sw == b.Sw && a.Life == b.Life && a.Epoch == b.Epoch && a.Seq == b.Seq && a.Port == b.Port && a.Out == b.Out &&
		a.Buf == b.Buf && a.Enter == b.Enter && a.Last == b.Last && a.Idle == b.Idle && a.Hard == b.Hard && a.Ports == b.Ports &&
		a.Peer == b.Peer && a.Key == b.Key && string(a.Frame) == string(b.Frame)
}

// may fails unless the message may be, and is what its bytes are parsed as.
func may(t *testing.T, m ctl.Msg) {
	t.Helper()
	if !ctl.May(m) {
		t.Errorf("%+v may not be", m)
	}
	b, e := ctl.Encode(m)
	if e != api.OK {
		t.Errorf("Encode of %+v: %d", m, e)
	}
	parses(t, b, m, api.OK)
}

func mayNot(t *testing.T, m ctl.Msg) {
	t.Helper()
	if ctl.May(m) {
		t.Errorf("%+v may be", m)
	}
	if b, e := ctl.Encode(m); e != api.ErrArg || len(b) != 0 {
		t.Errorf("Encode of %+v: %x, %d", m, b, e)
	}
}

func parses(t *testing.T, b []byte, want ctl.Msg, e api.Errno) {
	t.Helper()
	if m, got := ctl.Parse(b); !alike(m, want) || got != e {
		t.Errorf("Parse of %s: %+v, %d; not %+v, %d", show(b), m, got, want, e)
	}
}

func refuses(t *testing.T, b []byte, e api.Errno) {
	t.Helper()
	parses(t, b, ctl.Msg{}, e)
}

func TestExample(t *testing.T) {
	b, e := ctl.Encode(ctl.Msg{Kind: ctl.Ping, Sw: 1})
	want := sealed(unhex(t, "08 01 000000000000000000000000"))
	if e != api.OK || len(b) != 22 || !bytes.Equal(b, want) || !bytes.Equal(b[:6], unhex(t, "C0DE 0016 08 01")) {
		t.Errorf("%x, %d; not %x", b, e, want)
	}
}

func TestKindsAreNumbered(t *testing.T) {
	for i, k := range kinds {
		if k.kind != i+1 {
			t.Errorf("kind %d is number %d", k.kind, i+1)
		}
	}
}

// P8.1.

func TestMayOfFullAndLeastOnes(t *testing.T) {
	for _, k := range kinds {
		may(t, full(k.kind, k.has))
		may(t, least(k.kind, k.has))
		if k.kind != ctl.Join {
			mayNot(t, ctl.Msg{Kind: k.kind})
		}
	}
	mayNot(t, ctl.Msg{})
}

func TestMayOfEachField(t *testing.T) {
	for _, k := range kinds {
		for _, f := range fields {
			for _, v := range f.good {
				m := full(k.kind, k.has)
				f.put(&m, v)
				if has(k.has, f.name) || v == 0 {
					may(t, m)
				} else {
					mayNot(t, m)
				}
			}
			for _, v := range f.bad {
				m := full(k.kind, k.has)
				f.put(&m, v)
				if v == 0 && !has(k.has, f.name) {
					may(t, m)
				} else {
					mayNot(t, m)
				}
			}
		}
	}
}

func TestMayOfKeys(t *testing.T) {
	good := []api.Key{goodKey, {}, {Src: api.Anybody, Dst: api.Anybody, SrcIp: math.MaxUint32, DstIp: math.MaxUint32, Proto: api.Udp, Sport: 65535, Dport: 65535}, {Dst: 1}, {DstIp: 1}, {Proto: 255}}
	for _, k := range kinds {
		m := full(k.kind, k.has)
		for _, key := range good {
			m.Key = key
			if (has(k.has, "Key") || key == api.Key{}) {
				may(t, m)
			} else {
				mayNot(t, m)
			}
		}
		for _, key := range badKeys {
			m.Key = key
			mayNot(t, m)
		}
	}
}

func TestMayOfFrames(t *testing.T) {
	for _, k := range kinds {
		m := full(k.kind, k.has)
		for _, n := range []int{0, 1, 2, 3, 255, 256, 511, 512, 513, 514, 65000, 65536, 65539, 1 << 20} {
			for _, c := range []byte{0, 0xFF} {
				m.Frame = bytes.Repeat([]byte{c}, n)
				if has(k.has, "Frame") == (n >= 1 && n <= 512) && (n == 0 || has(k.has, "Frame")) {
					may(t, m)
				} else {
					mayNot(t, m)
				}
			}
		}
	}
}

func TestMayOfOtherKinds(t *testing.T) {
	for _, kind := range badKinds {
		mayNot(t, ctl.Msg{Kind: kind})
		mayNot(t, ctl.Msg{Kind: kind, Sw: 1})
		for _, k := range kinds {
			mayNot(t, full(kind, k.has))
			mayNot(t, least(kind, k.has))
		}
	}
}

func TestUp(t *testing.T) {
	for _, k := range kinds {
		if ctl.Up(k.kind) != k.up {
			t.Error("kind", k.kind)
		}
	}
	for _, kind := range badKinds {
		if ctl.Up(kind) {
			t.Error("kind", kind)
		}
	}
}

func same(t *testing.T, a, b ctl.Msg, want bool) {
	t.Helper()
	if ctl.Same(a, b) != want || ctl.Same(b, a) != want {
		t.Errorf("Same of %+v and %+v: %t", a, b, !want)
	}
}

func TestSame(t *testing.T) {
	other := []func(m *ctl.Msg){
		func(m *ctl.Msg) { m.Kind++ }, func(m *ctl.Msg) { m.Kind -= 1 << 32 },
		func(m *ctl.Msg) { m.Sw++ }, func(m *ctl.Msg) { m.Life++ }, func(m *ctl.Msg) { m.Epoch++ }, func(m *ctl.Msg) { m.Seq++ },
		func(m *ctl.Msg) { m.Port++ }, func(m *ctl.Msg) { m.Out++ }, func(m *ctl.Msg) { m.Buf++ },
		func(m *ctl.Msg) { m.Enter = !m.Enter }, func(m *ctl.Msg) { m.Last = !m.Last },
		func(m *ctl.Msg) { m.Idle++ }, func(m *ctl.Msg) { m.Hard++ }, func(m *ctl.Msg) { m.Ports++ },
		func(m *ctl.Msg) { m.Peer.Sw++ }, func(m *ctl.Msg) { m.Peer.Port++ },
		func(m *ctl.Msg) { m.Key.Src++ }, func(m *ctl.Msg) { m.Key.Dst++ }, func(m *ctl.Msg) { m.Key.SrcIp++ }, func(m *ctl.Msg) { m.Key.DstIp++ },
		func(m *ctl.Msg) { m.Key.Proto++ }, func(m *ctl.Msg) { m.Key.Sport++ }, func(m *ctl.Msg) { m.Key.Dport++ },
		func(m *ctl.Msg) { m.Frame = append(slices.Clone(m.Frame), 0) }, func(m *ctl.Msg) { m.Frame = []byte("abd") }, func(m *ctl.Msg) { m.Frame = []byte("bbc") },
	}
	all := []ctl.Msg{{}, {Kind: -1, Sw: math.MinInt, Port: math.MaxInt, Key: badKeys[0]}}
	for _, k := range kinds {
		all = append(all, full(k.kind, k.has), least(k.kind, k.has))
	}
	for i, a := range all {
		for n, change := range other {
			b := a
			change(&b)
			if same(t, a, b, false); alike(a, b) {
				t.Error("change", n, "is none")
			}
		}
		for j, b := range all {
			same(t, a, b, i == j)
		}
		b := a
		b.Frame = slices.Clone(a.Frame)
		same(t, a, b, true)
	}
	same(t, ctl.Msg{Frame: nil}, ctl.Msg{Frame: []byte{}}, true)
	same(t, ctl.Msg{Frame: []byte("ab")}, ctl.Msg{Frame: []byte("a")}, false)
	same(t, ctl.Msg{Frame: []byte("a")}, ctl.Msg{}, false)
}

func TestEncodeAndParseByHand(t *testing.T) {
	for _, k := range kinds {
		m, want := full(k.kind, k.has), sealed(unhex(t, k.bytes))
		if b, e := ctl.Encode(m); e != api.OK || !bytes.Equal(b, want) {
			t.Errorf("Encode of %+v: %x, %d; not %x", m, b, e, want)
		}
		parses(t, want, m, api.OK)
	}
}

func TestEncodeAndParseAtTheEdges(t *testing.T) {
	most := ctl.Msg{Kind: ctl.Add, Sw: 8, Life: math.MaxUint32, Epoch: math.MaxUint32, Seq: math.MaxUint32, Port: 8, Out: 8, Enter: true, Idle: 65535, Hard: 65535,
		Key: api.Key{Src: api.Anybody, Dst: api.Anybody, SrcIp: math.MaxUint32, DstIp: math.MaxUint32, Proto: api.Udp, Sport: 65535, Dport: 65535}}
	for _, c := range []struct {
		m    ctl.Msg
		want string
	}{
		{ctl.Msg{Kind: ctl.Join, Sw: 1}, "01 01 00000000 00"},
		{ctl.Msg{Kind: ctl.Changed, Sw: 8, Ports: 255}, "05 08 00000000 FF"},
		{ctl.Msg{Kind: ctl.Seen, Sw: 1, Port: 8, Peer: api.Place{Sw: 8, Port: 1}}, "06 01 00000000 08 08 01"},
		{ctl.Msg{Kind: ctl.Free, Sw: 1, Buf: 255}, "0C 01 00000000 FF"},
		{ctl.Msg{Kind: ctl.Free, Sw: 1}, "0C 01 00000000 00"},
		{ctl.Msg{Kind: ctl.Add, Sw: 1, Port: 1, Out: 1, Last: true}, "09 01 00000000 00000000 00000000 01 01 40 0000 0000" + strings.Repeat("00", 25)},
		{ctl.Msg{Kind: ctl.Add, Sw: 1, Port: 1, Out: 2, Hard: 1}, "09 01 00000000 00000000 00000000 01 02 00 0000 0001" + strings.Repeat("00", 25)},
		{most, "09 08 FFFFFFFF FFFFFFFF FFFFFFFF 08 08 80 FFFF FFFF FFFFFFFFFFFF FFFFFFFFFFFF FFFFFFFF FFFFFFFF 11 FFFF FFFF"},
		{ctl.Msg{Kind: ctl.Miss, Sw: 2, Port: 3, Buf: 4, Frame: make([]byte, 512)}, "03 02 00000000 00000000 03 04" + strings.Repeat("00", 512)},
		{ctl.Msg{Kind: ctl.Send, Sw: 2, Port: 3, Frame: []byte{0xC0, 0xDE}}, "0B 02 00000000 00000000 03 C0DE"},
	} {
		want := sealed(unhex(t, c.want))
		if b, e := ctl.Encode(c.m); e != api.OK || !bytes.Equal(b, want) {
			t.Errorf("Encode of %+v: %x, %d; not %x", c.m, b, e, want)
		}
		parses(t, want, c.m, api.OK)
	}
}

// P8.2.

func TestParseOfTooFewBytes(t *testing.T) {
	for n := range 14 {
		refuses(t, make([]byte, n), api.ErrForm)
		b := append([]byte{0xC0, 0xDE, 0, byte(n)}, make([]byte, 14)...)[:n]
		refuses(t, b, api.ErrForm)
		if n >= 8 {
			refuses(t, sealed(make([]byte, n-8)), api.ErrForm)
			b := resealed(b)
			b[n-1] ^= 1
			refuses(t, b, api.ErrForm)
		}
	}
	refuses(t, nil, api.ErrForm)
	b := sealed(make([]byte, 6)) // 14 bytes: now the sum counts, and then there is no such kind
	refuses(t, b, api.ErrForm)
	b[13] ^= 1
	refuses(t, b, api.ErrSum)
}

func TestParseOfOtherLengths(t *testing.T) {
	for _, k := range kinds {
		b := sealed(unhex(t, k.bytes))
		for n := range b {
			refuses(t, b[:n], api.ErrForm)
		}
		for n := 1; n < 40; n++ {
			refuses(t, append(slices.Clone(b), make([]byte, n)...), api.ErrForm)
		}
		for n := range 1 << 16 {
			c := slices.Clone(b)
			binary.BigEndian.PutUint16(c[2:], uint16(n))
			if n != len(b) {
				refuses(t, c, api.ErrForm)
				if n < 300 {
					refuses(t, resealed(c), api.ErrForm)
				}
			}
		}
	}
}

// A length is all of it, not what is left of it in 16 bits.
func TestParseOfLengthsThatGoRound(t *testing.T) {
	b := append(sealed(unhex(t, "01 03 01020304 51")), make([]byte, 1<<16)...)
	refuses(t, b, api.ErrForm)
	b = resealed(b)
	refuses(t, b, api.ErrForm)
	b = sealed(append(unhex(t, "0B 03 01020304 11121314 04"), make([]byte, 1<<16-20)...)) // the most that a length can tell
	refuses(t, b, api.ErrForm)
	b[100] ^= 1
	refuses(t, b, api.ErrSum)
}

func TestParseOfOtherMarks(t *testing.T) {
	for _, k := range kinds {
		for bit := range 16 {
			b := sealed(unhex(t, k.bytes))
			b[bit/8] ^= 1 << (bit % 8)
			refuses(t, b, api.ErrForm)
			refuses(t, resealed(b), api.ErrForm)
		}
	}
}

func TestParseOfOtherSums(t *testing.T) {
	for _, k := range kinds {
		b := sealed(unhex(t, k.bytes))
		for _, s := range []uint32{0, 1, math.MaxUint32, ^binary.BigEndian.Uint32(b[len(b)-4:]), binary.LittleEndian.Uint32(b[len(b)-4:])} {
			c := binary.BigEndian.AppendUint32(slices.Clone(b[:len(b)-4]), s)
			refuses(t, c, api.ErrSum)
		}
		c := binary.BigEndian.AppendUint32(slices.Clone(b[:len(b)-4]), crc32.ChecksumIEEE(b[4:len(b)-4]))
		refuses(t, c, api.ErrSum)
	}
}

// The sum is asked ahead of what it is of.
func TestParseOfAnotherSumOfNoMessage(t *testing.T) {
	for _, text := range []string{"00 00 00000000", "0E 01 00000000", "08 09 00000000 00000000 00000000", "08 01 00000000", "0D 01 00000000 09"} {
		b := sealed(unhex(t, text))
		refuses(t, b, api.ErrForm)
		b[len(b)-1] ^= 1
		refuses(t, b, api.ErrSum)
	}
}

func TestParseOfOtherKinds(t *testing.T) {
	for kind := range 256 {
		if kind >= ctl.Join && kind <= ctl.Probe {
			continue
		}
		refuses(t, sealed([]byte{byte(kind), 1, 0, 0, 0, 0}), api.ErrForm)
		for _, k := range kinds {
			body := unhex(t, k.bytes)
			body[0] = byte(kind)
			refuses(t, sealed(body), api.ErrForm)
		}
	}
}

// Each byte of a body in which a number from 1 to 8 stands, or bits that are noughts.
func TestParseOfNumbersThatMayNotBe(t *testing.T) {
	for _, c := range []struct {
		body string
		at   int
	}{
		{"01 03 01020304 51", 1},
		{"03 03 01020304 11121314 04 31 616263", 10},
		{"06 03 01020304 04 06 07", 6},
		{"06 03 01020304 04 06 07", 7},
		{"06 03 01020304 04 06 07", 8},
		{kinds[ctl.Add-1].bytes, 1},
		{kinds[ctl.Add-1].bytes, 14},
		{kinds[ctl.Add-1].bytes, 15},
		{"0B 03 01020304 11121314 04 616263", 10},
		{"0D 03 01020304 04", 6},
	} {
		for v := range 256 {
			body := unhex(t, c.body)
			body[c.at] = byte(v)
			if m, e := ctl.Parse(sealed(body)); (e == api.OK) != (v >= 1 && v <= 8) || (e != api.OK && (e != api.ErrForm || !alike(m, ctl.Msg{}))) {
				t.Errorf("%s with %d at %d: %+v, %d", c.body, v, c.at, m, e)
			}
		}
	}
}

func TestParseOfFlags(t *testing.T) {
	want := full(ctl.Add, kinds[ctl.Add-1].has)
	for v := range 256 {
		body := unhex(t, kinds[ctl.Add-1].bytes)
		body[16] = byte(v)
		want.Enter, want.Last = v&0x80 != 0, v&0x40 != 0
		if v&0x3F == 0 {
			parses(t, sealed(body), want, api.OK)
		} else {
			refuses(t, sealed(body), api.ErrForm)
		}
	}
}

func TestParseOfKeys(t *testing.T) {
	add := kinds[ctl.Add-1]
	for proto := range 256 {
		want := full(ctl.Add, add.has)
		want.Key.Proto, want.Key.Sport, want.Key.Dport = proto, 0, 0
		body := unhex(t, add.bytes)
		body[41] = byte(proto)
		if proto != api.Tcp && proto != api.Udp {
			refuses(t, sealed(body), api.ErrForm)
		}
		clear(body[42:])
		parses(t, sealed(body), want, api.OK)
	}
	bad := unhex(t, add.bytes) // all noughts but for a port of no protocol: to be told from a key of noughts
	clear(bad[21:])
	bad[44] = 1
	refuses(t, sealed(bad), api.ErrForm)
}

func TestParseOfBodiesOfOtherLengths(t *testing.T) {
	for _, k := range kinds {
		body := append(unhex(t, k.bytes), make([]byte, 600)...)
		n := len(unhex(t, k.bytes))
		for l := 6; l < len(body); l++ {
			b := sealed(body[:l])
			if !has(k.has, "Frame") {
				if l != n {
					refuses(t, b, api.ErrForm)
				}
				continue
			}
			if size := l - (n - 3); size >= 1 && size <= 512 {
				want := full(k.kind, k.has)
				want.Frame = body[n-3 : l]
				parses(t, b, want, api.OK)
			} else {
				refuses(t, b, api.ErrForm)
			}
		}
	}
}

// P8.3.

// chance is a message that may be; its numbers are few, so that messages are alike in many fields.
func chance(rnd *rand.Rand) ctl.Msg {
	k := kinds[rnd.Intn(len(kinds))]
	m := full(k.kind, k.has)
	for _, f := range fields {
		if has(k.has, f.name) {
			f.put(&m, f.good[rnd.Intn(len(f.good))])
		}
	}
	if has(k.has, "Key") && rnd.Intn(2) == 0 {
		m.Key = api.Key{Src: api.Mac(rnd.Uint64() >> 16), Dst: api.Mac(rnd.Intn(3)), SrcIp: api.Ip(rnd.Uint32()), Proto: api.Udp, Sport: rnd.Intn(65536)}
	}
	if has(k.has, "Frame") {
		m.Frame = make([]byte, 1+rnd.Intn(512))
		rnd.Read(m.Frame)
	}
	return m
}

func TestBack(t *testing.T) {
	rnd := rand.New(rand.NewSource(1))
	seen := map[string]ctl.Msg{}
	for range 10000 {
		m := chance(rnd)
		b, e := ctl.Encode(m)
		if e != api.OK {
			t.Fatalf("Encode of %+v: %d", m, e)
		}
		parses(t, b, m, api.OK)
		if was, ok := seen[string(b)]; ok && !alike(was, m) {
			t.Errorf("%+v and %+v are %x", was, m, b)
		}
		seen[string(b)] = m
	}
}

// Whatever bytes are parsed as a message, they are that message's.
func TestForth(t *testing.T) {
	rnd := rand.New(rand.NewSource(2))
	for range 30000 {
		b, _ := ctl.Encode(chance(rnd))
		body := b[4 : len(b)-4]
		for range 1 + rnd.Intn(3) {
			switch at := rnd.Intn(min(len(body), 60)); rnd.Intn(4) {
			case 0:
				body[at] ^= 1 << rnd.Intn(8)
			case 1:
				body[at] = byte(rnd.Intn(14))
			case 2:
				body = slices.Delete(body, at, at+1)
			case 3:
				body = slices.Insert(body, at, byte(rnd.Intn(14)))
			}
			if len(body) < 6 {
				body = make([]byte, 6)
			}
		}
		c := sealed(body)
		m, e := ctl.Parse(c)
		if e != api.OK {
			refuses(t, c, api.ErrForm)
			continue
		}
		if back, e := ctl.Encode(m); e != api.OK || !bytes.Equal(back, c) {
			t.Errorf("%x is parsed as %+v, %x, %d", c, m, back, e)
		}
	}
}

// P8.4.

func TestOneBitTurned(t *testing.T) {
	for _, k := range kinds {
		for _, m := range []ctl.Msg{full(k.kind, k.has), least(k.kind, k.has)} {
			if has(k.has, "Frame") {
				m.Frame = append(slices.Clone(m.Frame), make([]byte, 509)...)
			}
			b, e := ctl.Encode(m)
			if e != api.OK {
				t.Fatalf("Encode of %+v: %d", m, e)
			}
			for bit := range 8 * len(b) {
				b[bit/8] ^= 0x80 >> (bit % 8)
				if bit < 32 {
					refuses(t, b, api.ErrForm)
				} else {
					refuses(t, b, api.ErrSum)
				}
				b[bit/8] ^= 0x80 >> (bit % 8)
			}
			parses(t, b, m, api.OK)
		}
	}
}

// P1, and the rules that hold everywhere.

func TestBytesByChance(t *testing.T) {
	rnd := rand.New(rand.NewSource(3))
	for range 20000 {
		body := make([]byte, rnd.Intn(60))
		rnd.Read(body)
		if _, e := ctl.Parse(body); e != api.ErrForm {
			t.Errorf("Parse of %x: %d", body, e)
		}
		for at := range min(len(body), 16) {
			body[at] = byte(rnd.Intn(14))
		}
		if m, e := ctl.Parse(sealed(body)); e == api.OK && !ctl.May(m) || e != api.OK && e != api.ErrForm {
			t.Errorf("%x is %+v, %d", body, m, e)
		}
	}
}

func TestNoListIsChangedOrShared(t *testing.T) {
	m := ctl.Msg{Kind: ctl.Send, Sw: 1, Port: 2, Frame: []byte("abc")}
	a, _ := ctl.Encode(m)
	b, _ := ctl.Encode(m)
	clear(a)
	if !bytes.Equal(m.Frame, []byte("abc")) {
		t.Errorf("Encode shares a Frame: %x", m.Frame)
	}
	parses(t, b, m, api.OK)
	was := slices.Clone(b)
	x, _ := ctl.Parse(b)
	y, _ := ctl.Parse(b)
	clear(x.Frame)
	_ = append(x.Frame, 1, 2, 3, 4)
	if !bytes.Equal(b, was) || !alike(y, m) {
		t.Errorf("Parse shares a Frame: %x, %+v", b, y)
	}
	clear(b)
	if !alike(y, m) {
		t.Errorf("what was parsed is %+v now", y)
	}
	frame := append([]byte("abc"), 9, 9, 9, 9)
	m.Frame = frame[:3]
	ctl.Encode(m)
	ctl.Same(m, m)
	ctl.May(m)
	if !bytes.Equal(frame, []byte{'a', 'b', 'c', 9, 9, 9, 9}) {
		t.Errorf("what stands behind a Frame is %x now", frame)
	}
}
