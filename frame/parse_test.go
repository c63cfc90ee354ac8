package frame_test

import (
	"bytes"
	"math"
	"math/rand"
	"slices"
	"strconv"
	"testing"

	"ostiary/api"
	"ostiary/frame"
)

func parses(t *testing.T, what string, b []byte, want frame.Frame) {
	t.Helper()
	if f, e := frame.Parse(b); e != api.OK || !frame.Same(f, want) {
		t.Errorf("Parse of %s: %+v, %d; not %+v", what, f, e, want)
	}
}

// fails fails unless the bytes are refused for this reason, and nothing else is told.
func fails(t *testing.T, what string, b []byte, e api.Errno) {
	t.Helper()
	f, got := frame.Parse(b)
	if got != e {
		t.Errorf("Parse of %s: %d, not %d: %x", what, got, e, b)
	}
	if !frame.Same(f, frame.Frame{}) {
		t.Errorf("Parse of %s: %+v beside an error", what, f)
	}
}

// with is b with one byte changed, its sums as they were.
func with(b []byte, at int, v byte) []byte {
	l := slices.Clone(b)
	l[at] = v
	return l
}

// with16 is b with two bytes changed, its sums as they were.
func with16(b []byte, at, v int) []byte {
	l := slices.Clone(b)
	set16(l, at, v)
	return l
}

// sealed is b with the sums that fit it.
func sealed(b []byte) []byte {
	l := slices.Clone(b)
	seal(l)
	return l
}

// P5.2.

func TestParseEachKind(t *testing.T) {
	for i, f := range someOf() {
		parses(t, strconv.Itoa(i), raw(f), f)
	}
}

func TestParseOfLongBytes(t *testing.T) {
	for _, f := range someOf() {
		b := raw(f)
		if len(b) == api.MaxFrame {
			parses(t, "just so many", b, f)
			fails(t, "one more", append(b, 0), api.ErrLong)
		}
		fails(t, "noughts behind", append(b, make([]byte, api.MaxFrame)...), api.ErrLong)
	}
	for _, k := range kinds {
		if k.bodied {
			fails(t, k.name, raw(k.of(rising(api.MaxFrame+1-k.bytes)...)), api.ErrLong)
			fails(t, k.name, raw(k.of(rising(5000)...)), api.ErrLong)
		}
	}
	for _, n := range []int{api.MaxFrame + 1, 1000, 65536, 1 << 20} {
		fails(t, "noughts", make([]byte, n), api.ErrLong)
		fails(t, "ones", bytes.Repeat([]byte{0xFF}, n), api.ErrLong)
	}
	fails(t, "so many noughts", make([]byte, api.MaxFrame), api.ErrForm)
}

// What is cut off is no frame, but of an unknown Type, of which just the Body is shorter.
func TestParseOfFewerBytes(t *testing.T) {
	fails(t, "no bytes", nil, api.ErrForm)
	fails(t, "no bytes", []byte{}, api.ErrForm)
	for _, f := range someOf() {
		b := raw(f)
		for n := range len(b) {
			if n < headAt || f.Type == api.TypeArp || f.Type == api.TypeIp {
				fails(t, "fewer", b[:n], api.ErrForm)
			} else {
				parses(t, "fewer", b[:n], plain(f.Type, f.Body[:n-headAt]...))
			}
		}
	}
}

func TestParseOfMoreBytes(t *testing.T) {
	for _, f := range someOf() {
		b := raw(f)
		for n := 1; n <= 20 && len(b)+n <= api.MaxFrame; n++ {
			more := append(slices.Clone(b), make([]byte, n)...)
			if f.Type == api.TypeArp || f.Type == api.TypeIp {
				fails(t, "more", more, api.ErrForm)
			} else {
				parses(t, "more", more, plain(f.Type, more[headAt:]...))
			}
		}
	}
}

func TestParseOfTypes(t *testing.T) {
	for typ := range 65536 {
		b := with16(raw(plain(1536, 1, 2, 3)), 12, typ)
		if typ < 1536 || typ == api.TypeArp || typ == api.TypeIp {
			fails(t, strconv.Itoa(typ), b, api.ErrForm)
		} else {
			parses(t, strconv.Itoa(typ), b, plain(typ, 1, 2, 3))
		}
	}
}

// span is bits of a frame, from one on up to ahead of another one, and what is answered if one of them was turned.
type span struct {
	from, to int
	e        api.Errno
}

// turned fails unless each bit that was turned is answered as its span says; the spans are all bits up to the Body.
func turned(t *testing.T, what string, f frame.Frame, spans []span) {
	t.Helper()
	b := raw(f)
	at := 0
	for _, s := range spans {
		if s.from != at {
			t.Fatalf("%s: no span has bit %d", what, at)
		}
		for ; at < s.to; at++ {
			l := with(b, at/8, b[at/8]^(0x80>>(at%8)))
			if s.e != api.OK {
				fails(t, what+", bit "+strconv.Itoa(at), l, s.e)
			} else if g, e := frame.Parse(l); e != api.OK || frame.Same(f, g) || !bytes.Equal(raw(g), l) {
				t.Errorf("%s, bit %d: %+v, %d", what, at, g, e)
			}
		}
	}
	if at != 8*len(b) {
		t.Fatalf("%s: no span has bit %d of %d", what, at, 8*len(b))
	}
}

func TestEachBitOfAnArp(t *testing.T) {
	spans := append(firstSpans(),
		span{112, 176, api.ErrForm}, // 1, 0800, 6, 4, Op
		span{176, 336, api.OK})
	turned(t, "a question", arp(1), spans)
	turned(t, "an answer", arp(2), spans)
}

// firstSpans are Dst, Src and Type. Of another Type all behind it is a Body; but a Type below 1536 is none.
func firstSpans() []span {
	return []span{{0, 100, api.OK}, {100, 101, api.ErrForm}, {101, 112, api.OK}}
}

func headSpans() []span {
	return append(firstSpans(),
		span{112, 144, api.ErrForm}, // 4, 5, 0, the length
		span{144, 160, api.ErrSum},
		span{160, 176, api.ErrForm}, // 0
		span{176, 272, api.ErrSum})
}

// No bit that is turned makes Udp or Tcp of protocol 64.
func TestEachBitOfAHead(t *testing.T) {
	turned(t, "a Head and a Body", other(64, 1, 2, 3), append(headSpans(), span{272, 296, api.OK}))
	turned(t, "a Head alone", other(64), headSpans())
}

func TestEachBitOfAnUdp(t *testing.T) {
	turned(t, "udp", udp(1, 2, 3), append(headSpans(),
		span{272, 304, api.ErrSum},
		span{304, 320, api.ErrForm}, // the length
		span{320, 360, api.ErrSum}))
}

func TestEachBitOfATcp(t *testing.T) {
	turned(t, "tcp", tcp(1, 2, 3), append(headSpans(),
		span{272, 368, api.ErrSum},
		span{368, 376, api.ErrForm}, // 5, 0
		span{376, 416, api.ErrSum},
		span{416, 432, api.ErrForm}, // 0
		span{432, 456, api.ErrSum}))
}

func TestParseOfOps(t *testing.T) {
	for v := range 65536 {
		b := with16(raw(arp(1)), 20, v)
		if v == 1 || v == 2 {
			parses(t, strconv.Itoa(v), b, arp(v))
		} else {
			fails(t, strconv.Itoa(v), b, api.ErrForm)
		}
	}
}

// lengths are such as bytes might tell; among them is the right one.
func lengths() []int {
	var l []int
	for n := range 600 {
		l = append(l, n)
	}
	return append(l, 1023, 1024, 4096, 32768, 65534, 65535)
}

// lengthAt fails unless of all lengths at that byte just this one is read.
func lengthAt(t *testing.T, f frame.Frame, at, right int) {
	t.Helper()
	b := raw(f)
	for _, n := range lengths() {
		l := with16(b, at, n)
		if n == right {
			parses(t, "the right length", l, f)
			continue
		}
		fails(t, "length "+strconv.Itoa(n)+", and another sum", l, api.ErrForm)
		fails(t, "length "+strconv.Itoa(n), sealed(l), api.ErrForm)
	}
}

func TestParseOfOtherLengths(t *testing.T) {
	for _, f := range []frame.Frame{other(1), other(1, 1, 2, 3), udp(), udp(1, 2, 3), tcp(), tcp(1, 2, 3)} {
		lengthAt(t, f, headAt+2, len(raw(f))-headAt)
	}
}

func TestParseOfOtherLengthsOfUdp(t *testing.T) {
	for _, f := range []frame.Frame{udp(), udp(1), udp(1, 2, 3)} {
		lengthAt(t, f, endsAt+4, 8+len(f.Body))
	}
}

// Here nothing but the protocol's own part is too short, and the length and the sum of the Head fit.
func TestParseOfTooFewBytesForAProtocol(t *testing.T) {
	for n := range 21 {
		b := raw(other(1, rising(n)...))
		for p, need := range map[byte]int{api.Udp: 8, api.Tcp: 20} {
			if n < need {
				fails(t, "proto "+strconv.Itoa(int(p)), sealed(with(b, 23, p)), api.ErrForm)
			}
		}
	}
}

// sumsOf tells where the sums of a frame stand.
func sumsOf(f frame.Frame) []int {
	switch f.Head.Proto {
	case api.Udp:
		return []int{headSum, udpSum}
	case api.Tcp:
		return []int{headSum, tcpSum}
	}
	return []int{headSum}
}

func TestParseOfOtherSums(t *testing.T) {
	for _, f := range []frame.Frame{other(1, 1), udp(1, 2), tcp(1, 2, 3)} {
		b := raw(f)
		for _, at := range sumsOf(f) {
			right := get16(b, at)
			for v := range 65536 {
				if v != right {
					fails(t, "a sum at "+strconv.Itoa(at), with16(b, at, v), api.ErrSum)
				}
			}
		}
	}
}

func TestParseOfBothSumsOther(t *testing.T) {
	for _, f := range []frame.Frame{udp(), udp(1, 2), udp(1, 2, 3), tcp(), tcp(1, 2), tcp(1, 2, 3)} {
		b := raw(f)
		at := sumsOf(f)
		for _, v := range []int{0, 1, 0x1234, 0xFFFE, 0xFFFF} {
			fails(t, "both sums", with16(with16(b, at[0], v), at[1], v), api.ErrSum)
			fails(t, "both sums", with16(with16(b, at[0], ^get16(b, at[0])), at[1], v), api.ErrSum)
		}
		fails(t, "both sums exchanged", with16(with16(b, at[0], get16(b, at[1])), at[1], get16(b, at[0])), api.ErrSum)
	}
}

func TestParseOfAnUdpSumOf0(t *testing.T) {
	for _, f := range []frame.Frame{udp(), udp(1), udp(1, 2), zeroSum(udp, udpSum)} {
		fails(t, "no sum", with16(raw(f), udpSum, 0), api.ErrSum)
	}
}

// 0 and FFFF weigh the same in a sum, but one of them alone is what stands there.
func TestParseOfFFFFInPlaceOf0(t *testing.T) {
	fails(t, "tcp", with16(raw(zeroSum(tcp, tcpSum)), tcpSum, 0xFFFF), api.ErrSum)
	for _, f := range []frame.Frame{other(1, 1), udp(1), tcp(1)} {
		fails(t, "a Head", with16(raw(zeroHead(f)), headSum, 0xFFFF), api.ErrSum)
	}
}

// A sum that fits other addresses, or another length, does not fit.
func TestSumsAreOfAllThatTheyShouldBe(t *testing.T) {
	for _, f := range []frame.Frame{udp(1, 2, 3), tcp(1, 2, 3)} {
		b := raw(f)
		at := sumsOf(f)[1]
		for _, h := range []frame.Head{{Src: 1}, {Dst: 1}} {
			g := f
			g.Head.Src += h.Src
			g.Head.Dst += h.Dst
			parses(t, "other addresses", raw(g), g)
			fails(t, "the sum of other addresses", with16(raw(g), at, get16(b, at)), api.ErrSum)
		}
		g := f
		g.Body = append(slices.Clone(f.Body), 0) // behind an odd byte a 0 changes the length alone
		parses(t, "another length", raw(g), g)
		fails(t, "the sum of another length", with16(raw(g), at, get16(b, at)), api.ErrSum)
	}
}

// wrongs are changes behind which bytes are no frame's, whatever their sums.
func wrongs(f frame.Frame) map[string]func(b []byte) []byte {
	l := map[string]func(b []byte) []byte{
		"Type 1535":       func(b []byte) []byte { return with16(b, 12, 1535) },
		"version 6":       func(b []byte) []byte { return with(b, 14, 0x65) },
		"options":         func(b []byte) []byte { return with(b, 14, 0x46) },
		"a kind of haste": func(b []byte) []byte { return with(b, 15, 4) },
		"length less":     func(b []byte) []byte { return with16(b, 16, get16(b, 16)-1) },
		"length more":     func(b []byte) []byte { return with16(b, 16, get16(b, 16)+1) },
		"don't cut":       func(b []byte) []byte { return with16(b, 20, 0x4000) },
		"a piece":         func(b []byte) []byte { return with16(b, 20, 1) },
		"a byte less":     func(b []byte) []byte { return b[:len(b)-1] },
		"a byte more":     func(b []byte) []byte { return append(slices.Clone(b), 0) },
	}
	switch f.Head.Proto {
	case api.Udp:
		l["Udp length less"] = func(b []byte) []byte { return with16(b, 38, get16(b, 38)-1) }
		l["Udp length more"] = func(b []byte) []byte { return with16(b, 38, get16(b, 38)+1) }
		l["Udp length 0"] = func(b []byte) []byte { return with16(b, 38, 0) }
	case api.Tcp:
		l["Tcp options"] = func(b []byte) []byte { return with(b, 46, 0x60) }
		l["Tcp too short"] = func(b []byte) []byte { return with(b, 46, 0x40) }
		l["Tcp's nought"] = func(b []byte) []byte { return with(b, 46, 0x51) }
		l["urgent"] = func(b []byte) []byte { return with16(b, 52, 1) }
	}
	return l
}

func TestOtherSumsAndSomethingElse(t *testing.T) {
	for _, f := range []frame.Frame{other(1, 1, 2), other(1, 1), udp(1, 2), udp(1), tcp(1, 2), tcp(1)} {
		b := raw(f)
		all := slices.Clone(b)
		for _, at := range sumsOf(f) {
			set16(all, at, get16(b, at)^0x0101)
			fails(t, "sums alone", all, api.ErrSum)
		}
		for what, change := range wrongs(f) {
			fails(t, what, change(b), api.ErrForm)
			fails(t, what+", sums that fit", sealed(change(b)), api.ErrForm)
			fails(t, what+", all sums other", change(all), api.ErrForm)
			for _, at := range sumsOf(f) {
				fails(t, what+", one sum other", change(with16(b, at, 0x1111)), api.ErrForm)
			}
		}
	}
}

// Whichever bits are turned: among them is one of those that are the same in all such frames.
func TestManyBits(t *testing.T) {
	rnd := rand.New(rand.NewSource(5))
	same := map[int][]int{api.Udp: {304, 319}, api.Tcp: {368, 375, 416, 431}, 64: {112, 143, 160, 175}}
	for _, f := range []frame.Frame{other(64, 1, 2), udp(1, 2), tcp(1, 2)} {
		b := raw(f)
		for range 3000 {
			l := slices.Clone(b)
			bit := same[f.Head.Proto][rnd.Intn(len(same[f.Head.Proto]))]
			l[bit/8] ^= 0x80 >> (bit % 8)
			for range rnd.Intn(6) {
				k := 112 + rnd.Intn(8*len(b)-112)
				if k/8 != bit/8 && k/8 != 23 {
					l[k/8] ^= 0x80 >> (k % 8)
				}
			}
			fails(t, "many bits", l, api.ErrForm)
		}
	}
}

// P5.3.

func numberOf(rnd *rand.Rand, width int) uint64 {
	most := uint64(1)<<width - 1
	switch rnd.Intn(4) {
	case 0:
		return 0
	case 1:
		return most
	}
	return rnd.Uint64() & most
}

// chance is a frame that may be.
func chance(rnd *rand.Rand) frame.Frame {
	f := plain(1536 + rnd.Intn(64000))
	l := slices.Clone(anywhere)
	room := api.MaxFrame - headAt
	switch rnd.Intn(5) {
	case 0:
		f = arp(1 + rnd.Intn(2))
		l, room = append(l, ofArp...), 0
	case 1:
		f = other(rnd.Intn(6))
		l, room = append(l, ofHead...), room-20
	case 2:
		f = udp()
		l, room = append(append(l, ofHead...), ports...), room-28
	case 3:
		f = tcp()
		l, room = append(append(append(l, ofHead...), ports...), ofTcp...), room-40
	}
	if f.Type == api.TypeArp && f.Arp.Op == 0 {
		f.Type++
	}
	for _, n := range l {
		n.set(&f, numberOf(rnd, n.width))
	}
	if rnd.Intn(3) > 0 {
		f.Body = make([]byte, rnd.Intn(min(room, 1<<rnd.Intn(10))+1))
		rnd.Read(f.Body)
	}
	return f
}

func TestBack(t *testing.T) {
	rnd := rand.New(rand.NewSource(1))
	for range 5000 {
		f := chance(rnd)
		good(t, "a frame by chance", f)
		b, _ := frame.Encode(f)
		parses(t, "what was encoded", b, f)
	}
}

// What is parsed, of whatever bytes, is encoded as it was; what is not, is told nothing of.
func TestBackOfChangedBytes(t *testing.T) {
	rnd := rand.New(rand.NewSource(2))
	count := map[api.Errno]int{}
	for range 20000 {
		l := raw(chance(rnd))
		for range rnd.Intn(4) {
			l[rnd.Intn(len(l))] = byte(rnd.Intn(256))
		}
		switch rnd.Intn(4) {
		case 0:
			l = sealed(l)
		case 1:
			l = l[:rnd.Intn(len(l)+1)]
		}
		f, e := frame.Parse(l)
		count[e]++
		if e != api.OK {
			fails(t, "changed bytes", l, e)
			continue
		}
		encodes(t, "what was parsed", f, l, api.OK)
		if !bytes.Equal(raw(f), l) {
			t.Errorf("%x is %x", l, raw(f))
		}
	}
	if len(count) != 3 || count[api.OK] < 1000 || count[api.ErrSum] < 1000 || count[api.ErrForm] < 1000 {
		t.Error("not all answers came", count)
	}
}

// P1, and the rules that hold everywhere.

func TestBytesByChance(t *testing.T) {
	rnd := rand.New(rand.NewSource(3))
	for range 20000 {
		l := make([]byte, rnd.Intn(600))
		rnd.Read(l)
		if len(l) > headAt && rnd.Intn(2) == 0 {
			set16(l, 12, []int{api.TypeArp, api.TypeIp}[rnd.Intn(2)])
		}
		f, e := frame.Parse(l)
		switch {
		case len(l) > api.MaxFrame:
			fails(t, "bytes by chance", l, api.ErrLong)
		case e == api.OK:
			encodes(t, "bytes by chance", f, l, api.OK)
		default:
			fails(t, "bytes by chance", l, e)
		}
	}
}

func TestNumbersByChance(t *testing.T) {
	rnd := rand.New(rand.NewSource(4))
	far := []uint64{1, math.MaxUint64, 1 << 63, 1<<63 - 1, 1 << 48, 1 << 32, 1 << 16, 1 << 8}
	all := slices.Concat(anywhere, ofArp, ofHead, ports, ofTcp, []number{proto, op})
	for range 20000 {
		f := chance(rnd)
		if rnd.Intn(4) == 0 {
			f.Type = int(far[rnd.Intn(len(far))])
		}
		for range rnd.Intn(3) {
			all[rnd.Intn(len(all))].set(&f, far[rnd.Intn(len(far))])
		}
		b, e := frame.Encode(f)
		switch e {
		case api.OK:
			good(t, "numbers by chance", f)
			parses(t, "numbers by chance", b, f)
		case api.ErrArg, api.ErrLong:
			refused(t, "numbers by chance", f, e)
		default:
			t.Errorf("Encode: %d", e)
		}
	}
}

func TestNoListIsChangedOrKept(t *testing.T) {
	for _, f := range someOf() {
		body := append(slices.Clone(f.Body), 0xEE)
		f.Body = body[:len(body)-1]
		was := slices.Clone(body)
		b, _ := frame.Encode(f)
		frame.May(f)
		frame.Same(f, f)
		if !bytes.Equal(body, was) {
			t.Errorf("the Body was changed: %x", body)
		}
		want := slices.Clone(b)
		clear(body)
		if !bytes.Equal(b, want) {
			t.Errorf("what was encoded shares the Body: %x", b)
		}
	}
}

func TestWhatIsParsedIsItsCallersOwn(t *testing.T) {
	for _, f := range someOf() {
		b := raw(f)
		l := append(slices.Clone(b), 0xEE, 0xEE)
		got, _ := frame.Parse(l[:len(b)])
		again, _ := frame.Parse(l[:len(b)])
		_ = append(got.Body, 1, 2)
		if !bytes.Equal(l, append(b, 0xEE, 0xEE)) {
			t.Errorf("Parse's bytes were changed: %x", l)
		}
		clear(l)
		if !frame.Same(got, f) {
			t.Errorf("Parse kept its bytes: %+v", got)
		}
		clear(got.Body)
		if !frame.Same(again, f) {
			t.Errorf("two answers share a Body: %+v", again)
		}
	}
}

func TestEncodeTellsNewBytes(t *testing.T) {
	a, _ := frame.Encode(udp(1, 2, 3))
	b, _ := frame.Encode(udp(1, 2, 3))
	clear(a)
	if !bytes.Equal(b, raw(udp(1, 2, 3))) {
		t.Errorf("two answers share bytes: %x", b)
	}
}
