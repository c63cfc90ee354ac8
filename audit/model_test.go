package audit_test

import (
	"encoding/binary"
	"math"
	"math/rand"
	"slices"
	"strings"

	"ostiary/api"
	"ostiary/audit"
)

// field is one of a record's fields: numbers that may be where a kind has it, the first one other than 0; such that may not be; and whether it needs another one than 0 there.
type field struct {
	name      string
	put       func(r *audit.Rec, v uint64)
	good, bad []uint64
	needs     bool
}

func signed(n int64) uint64 { return uint64(n) }

var (
	goodWords = []uint64{0x01020304, 0, 1, 1 << 31, math.MaxUint32}
	goodLongs = []uint64{0x3132333435363738, 0, 1, 1 << 63, math.MaxUint64}
	goodTimes = []uint64{0x2122232425, 0, 1, 1 << 39, 1<<40 - 1}
	goodBytes = []uint64{0x51, 0, 1, 128, 255}
	goodOnes  = []uint64{3, 1, 2, 7, 8}
	goodMacs  = []uint64{0x0A0B0C0D0E0F, 0, 1, 1 << 47, 1<<48 - 1}

	badTimes = []uint64{1 << 40, 1<<40 + 1, 1 << 41, signed(-1), signed(-1 << 40), signed(math.MinInt64), math.MaxInt64}
	badBytes = []uint64{256, 257, 512, 1 << 32, 1<<32 + 1, signed(-1), signed(-255), signed(-256), signed(math.MinInt64), math.MaxInt64}
	badOnes  = append([]uint64{0, 9, 10, 16, 255, signed(-8)}, badBytes...)
	badMacs  = []uint64{1 << 48, 1<<48 + 1, 1 << 49, 1 << 63, math.MaxUint64}
)

// fields are all that are numbers, but for the kind.
var fields = []field{
	{"Time", func(r *audit.Rec, v uint64) { r.Time = int64(v) }, goodTimes, badTimes, false},
	{"Epoch", func(r *audit.Rec, v uint64) { r.Epoch = uint32(v) }, goodWords, nil, false},
	{"Flow", func(r *audit.Rec, v uint64) { r.Flow = uint32(v) }, goodWords, nil, false},
	{"Why", func(r *audit.Rec, v uint64) { r.Why = int(v) }, goodBytes, badBytes, false},
	{"Rule", func(r *audit.Rec, v uint64) { r.Rule = int(v) }, goodBytes, badBytes, false},
	{"A", func(r *audit.Rec, v uint64) { r.A = v }, goodLongs, nil, false},
	{"B", func(r *audit.Rec, v uint64) { r.B = v }, goodLongs, nil, false},
	{"Mac", func(r *audit.Rec, v uint64) { r.Mac = api.Mac(v) }, goodMacs, badMacs, false},
	{"Ip", func(r *audit.Rec, v uint64) { r.Ip = api.Ip(v) }, goodWords, nil, false},
	{"Until", func(r *audit.Rec, v uint64) { r.Until = int64(v) }, goodTimes, badTimes, false},
	{"From", func(r *audit.Rec, v uint64) { r.From.Sw = int(v) }, goodOnes, badOnes, true},
	{"From", func(r *audit.Rec, v uint64) { r.From.Port = int(v) }, goodOnes, badOnes, true},
	{"To", func(r *audit.Rec, v uint64) { r.To.Sw = int(v) }, goodOnes, badOnes, true},
	{"To", func(r *audit.Rec, v uint64) { r.To.Port = int(v) }, goodOnes, badOnes, true},
}

// names are all fields that are names.
var names = []struct {
	name string
	put  func(r *audit.Rec, s string)
}{
	{"Name", func(r *audit.Rec, s string) { r.Name = s }},
	{"Src", func(r *audit.Rec, s string) { r.Src.User = s }},
	{"Src", func(r *audit.Rec, s string) { r.Src.Host = s }},
	{"Dst", func(r *audit.Rec, s string) { r.Dst.User = s }},
	{"Dst", func(r *audit.Rec, s string) { r.Dst.Host = s }},
}

// kinds tells of each kind its number, which fields it has beside Kind and Time, and the bytes of its full record.
var kinds = []struct {
	kind  int
	has   string
	bytes string
}{
	{audit.Epoch, "Epoch", "01 2122232425 01020304"},
	{audit.Policy, "Text", "02 2122232425 0007 616C6C6F77 00 FF"},
	{audit.User, "Name A B", "03 2122232425 03616E6E 3132333435363738 3132333435363738"},
	{audit.Host, "Name Mac", "04 2122232425 03616E6E 0A0B0C0D0E0F"},
	{audit.Revoke, "Name", "05 2122232425 03616E6E"},
	{audit.Lease, "Mac Ip Until", "06 2122232425 0A0B0C0D0E0F 01020304 2122232425"},
	{audit.Unlet, "Mac Ip", "07 2122232425 0A0B0C0D0E0F 01020304"},
	{audit.Login, "Name Mac Ip From", "08 2122232425 03616E6E 0A0B0C0D0E0F 01020304 03 03"},
	{audit.Logoff, "Name Why", "09 2122232425 51 03616E6E"},
	{audit.Admit, "Epoch Flow Rule From To Src Dst Key Path", "0A 2122232425 01020304 01020304 51 03 03 03 03 03616E6E 026831 03626F62 056162636432" +
		"0A0000000001 0B0000000002 0A000001 0A000002 06 0FA0 0050 02 01 02 03 04 05 06"},
	{audit.Deny, "Why From Key", "0B 2122232425 51 03 03 0A0000000001 0B0000000002 0A000001 0A000002 06 0FA0 0050"},
}

// all are the fields of all kinds.
const all = "Epoch Flow Why Rule Name Text A B Mac Ip Until From To Src Dst Key Path"

var badKinds = []int{math.MinInt, -256, -255, -246, -1, 0, 12, 13, 127, 255, 256, 257, 261, 266, 1<<32 + 5, math.MaxInt}

var goodKey = api.Key{Src: 0x0A0000000001, Dst: 0x0B0000000002, SrcIp: 0x0A000001, DstIp: 0x0A000002, Proto: api.Tcp, Sport: 4000, Dport: 80}

var (
	goodKeys = []api.Key{goodKey, {}, {Dst: 1}, {DstIp: 1}, {Proto: 255}, {Proto: api.Tcp, Sport: 1},
		{Src: api.Anybody, Dst: api.Anybody, SrcIp: math.MaxUint32, DstIp: math.MaxUint32, Proto: api.Udp, Sport: 65535, Dport: 65535}}
	badKeys = []api.Key{
		{Src: 1 << 48}, {Dst: 1 << 48}, {Src: math.MaxUint64}, {Proto: 256}, {Proto: -1}, {Proto: 256 + api.Tcp},
		{Sport: 1}, {Dport: 1}, {Proto: 1, Sport: 1}, {Proto: 16, Dport: 80},
		{Proto: api.Tcp, Sport: 65536}, {Proto: api.Udp, Dport: -1}, {Proto: api.Udp, Dport: 1<<32 + 80},
	}
	goodNames = []string{"ann", "a", "z", "h1", "a0", "z9", "abcdefgh", "a1234567", "zzzzzzzz", "deny"}
	badNames  = []string{"", "0", "9", "1a", "abcdefghi", "a12345678", "A", "Ann", "anN", "a b", " a", "a ", "a_b", "a-b", "`", "{", "a`", "a{", "a/", "a:",
		"\x00", "a\x00", "a\n", "a\x80", "\xff", "ä", "aä", "a٣", strings.Repeat("a", 255), strings.Repeat("a", 256), strings.Repeat("a", 257), strings.Repeat("a", 264)}
)

func has(list, name string) bool {
	return name == "Time" || slices.Contains(strings.Fields(list), name)
}

// full is a record of a kind that has the first good number in each of its fields.
func full(kind int, list string) audit.Rec {
	r := audit.Rec{Kind: kind}
	for _, f := range fields {
		if has(list, f.name) {
			f.put(&r, f.good[0])
		}
	}
	if has(list, "Name") {
		r.Name = "ann"
	}
	if has(list, "Text") {
		r.Text = "allow\x00\xff"
	}
	if has(list, "Src") {
		r.Src, r.Dst = audit.Who{User: "ann", Host: "h1"}, audit.Who{User: "bob", Host: "abcd2"}
	}
	if has(list, "Key") {
		r.Key = goodKey
	}
	if has(list, "Path") {
		r.Path = []api.Hop{{Sw: 1, In: 2, Out: 3}, {Sw: 4, In: 5, Out: 6}}
	}
	return r
}

// least is one with the least that may be.
func least(kind int, list string) audit.Rec {
	r := audit.Rec{Kind: kind}
	for _, f := range fields {
		if has(list, f.name) && f.needs {
			f.put(&r, 1)
		}
	}
	for _, n := range names {
		if has(list, n.name) {
			n.put(&r, "a")
		}
	}
	if has(list, "Path") {
		r.Path = []api.Hop{{Sw: 1, In: 1, Out: 1}}
	}
	return r
}

// most is one with the most that may be.
func most(kind int, list string) audit.Rec {
	r := audit.Rec{Kind: kind}
	for _, f := range fields {
		if has(list, f.name) {
			f.put(&r, slices.Max(f.good))
		}
	}
	for _, n := range names {
		if has(list, n.name) {
			n.put(&r, "zzzzzzzz")
		}
	}
	if has(list, "Text") {
		r.Text = strings.Repeat("\xff", 800)
	}
	if has(list, "Key") {
		r.Key = goodKeys[len(goodKeys)-1]
	}
	if has(list, "Path") {
		r.Path = hops(60)
	}
	return r
}

func hops(n int) []api.Hop {
	var l []api.Hop
	for i := range n {
		l = append(l, api.Hop{Sw: 8 - i%8, In: 1 + i/8%8, Out: 1 + i%7})
	}
	return l
}

// chance is a record that may be; its numbers are few, so that records are alike in many fields.
func chance(rnd *rand.Rand) audit.Rec {
	k := kinds[rnd.Intn(len(kinds))]
	r := full(k.kind, k.has)
	for _, f := range fields {
		if has(k.has, f.name) {
			f.put(&r, f.good[rnd.Intn(len(f.good))])
		}
	}
	for _, n := range names {
		if has(k.has, n.name) {
			n.put(&r, goodNames[rnd.Intn(len(goodNames))])
		}
	}
	if has(k.has, "Text") {
		b := make([]byte, rnd.Intn(801))
		rnd.Read(b)
		r.Text = string(b)
	}
	if has(k.has, "Key") {
		r.Key = goodKeys[rnd.Intn(len(goodKeys))]
	}
	if has(k.has, "Path") {
		r.Path = nil
		for range 1 + rnd.Intn(60) {
			r.Path = append(r.Path, api.Hop{Sw: 1 + rnd.Intn(8), In: 1 + rnd.Intn(8), Out: 1 + rnd.Intn(8)})
		}
	}
	return r
}

// low puts a number's so many lowest bytes behind b.
func low(b []byte, n int, v uint64) []byte {
	all := binary.BigEndian.AppendUint64(nil, v)
	return append(b, all[8-n:]...)
}

func named(b []byte, s string) []byte { return append(append(b, byte(len(s))), s...) }

// bytesOf are a record's bytes, as the chapter tells them.
func bytesOf(r audit.Rec, list string) []byte {
	b := low([]byte{byte(r.Kind)}, 5, uint64(r.Time))
	parts := []struct {
		name string
		add  func()
	}{
		{"Epoch", func() { b = low(b, 4, uint64(r.Epoch)) }},
		{"Flow", func() { b = low(b, 4, uint64(r.Flow)) }},
		{"Why", func() { b = low(b, 1, uint64(r.Why)) }},
		{"Rule", func() { b = low(b, 1, uint64(r.Rule)) }},
		{"Name", func() { b = named(b, r.Name) }},
		{"Text", func() { b = append(low(b, 2, uint64(len(r.Text))), r.Text...) }},
		{"A", func() { b = low(b, 8, r.A) }},
		{"B", func() { b = low(b, 8, r.B) }},
		{"Mac", func() { b = low(b, 6, uint64(r.Mac)) }},
		{"Ip", func() { b = low(b, 4, uint64(r.Ip)) }},
		{"Until", func() { b = low(b, 5, uint64(r.Until)) }},
		{"From", func() { b = append(b, byte(r.From.Sw), byte(r.From.Port)) }},
		{"To", func() { b = append(b, byte(r.To.Sw), byte(r.To.Port)) }},
		{"Src", func() { b = named(named(b, r.Src.User), r.Src.Host) }},
		{"Dst", func() { b = named(named(b, r.Dst.User), r.Dst.Host) }},
		{"Key", func() {
			b = low(low(low(low(b, 6, uint64(r.Key.Src)), 6, uint64(r.Key.Dst)), 4, uint64(r.Key.SrcIp)), 4, uint64(r.Key.DstIp))
			b = low(low(low(b, 1, uint64(r.Key.Proto)), 2, uint64(r.Key.Sport)), 2, uint64(r.Key.Dport))
		}},
		{"Path", func() {
			b = append(b, byte(len(r.Path)))
			for _, h := range r.Path {
				b = append(b, byte(h.Sw), byte(h.In), byte(h.Out))
			}
		}},
	}
	for _, p := range parts {
		if has(list, p.name) {
			p.add()
		}
	}
	return b
}
