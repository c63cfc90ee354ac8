package flow_test

import (
	"bytes"
	"cmp"
	"encoding/hex"
	"math"
	"math/rand"
	"slices"
	"strconv"
	"strings"
	"testing"

	"ostiary/api"
	"ostiary/flow"
	"ostiary/frame"
)

const (
	ann   = api.Mac(0x0A0000000001)
	bob   = api.Mac(0x0B0000000002)
	annIp = api.Ip(0x0A000001)
	bobIp = api.Ip(0x0A000002)
)

// key is one from ann to bob.
func key(proto, sport, dport int) api.Key {
	return api.Key{Src: ann, Dst: bob, SrcIp: annIp, DstIp: bobIp, Proto: proto, Sport: sport, Dport: dport}
}

// packet is a frame of that key.
func packet(k api.Key, body ...byte) frame.Frame {
	return frame.Frame{
		Dst: k.Dst, Src: k.Src, Type: api.TypeIp,
		Head: frame.Head{Src: k.SrcIp, Dst: k.DstIp, Proto: k.Proto, Ttl: 9, Id: 8},
		Ends: frame.Ends{Sport: k.Sport, Dport: k.Dport},
		Body: body,
	}
}

var (
	widest   = api.Key{Src: api.Anybody, Dst: api.Anybody, SrcIp: math.MaxUint32, DstIp: math.MaxUint32, Proto: 255}
	widePort = api.Key{Src: api.Anybody, Dst: api.Anybody, SrcIp: math.MaxUint32, DstIp: math.MaxUint32, Proto: api.Udp, Sport: 65535, Dport: 65535}
)

// goodKeys are such that may be, ports of 0 and the greatest ones among them, each once.
func goodKeys() []api.Key {
	l := []api.Key{{}, widest, widePort, {Src: 1}, {Dst: 1}, {SrcIp: 1}, {DstIp: 1}}
	for _, proto := range []int{0, 1, 5, 6, 7, 16, 17, 18, 254, 255} {
		l = append(l, key(proto, 0, 0))
		if proto == api.Tcp || proto == api.Udp {
			l = append(l, key(proto, 1, 0), key(proto, 0, 1), key(proto, 65535, 0), key(proto, 0, 65535), key(proto, 4000, 80), key(proto, 255, 256))
		}
	}
	return l
}

// badKeys are such that may not be, for one reason each.
func badKeys() []api.Key {
	var l []api.Key
	for _, m := range []api.Mac{1 << 48, 1<<48 + 1, 1 << 49, 1 << 63, math.MaxUint64} {
		a, b := key(api.Tcp, 1, 2), key(api.Tcp, 1, 2)
		a.Src, b.Dst = m, m
		l = append(l, a, b)
	}
	for _, proto := range []int{math.MinInt, -256, -250, -1, 256, 256 + api.Tcp, 1<<32 + api.Udp, math.MaxInt} {
		l = append(l, key(proto, 0, 0), key(proto, 4000, 80))
	}
	for _, port := range []int{math.MinInt, -65536, -1, 65536, 65536 + 80, 1<<32 + 80, math.MaxInt} {
		for _, proto := range []int{api.Tcp, api.Udp} {
			l = append(l, key(proto, port, 80), key(proto, 80, port), key(proto, port, port))
		}
	}
	for proto := range 256 {
		if proto != api.Tcp && proto != api.Udp {
			l = append(l, key(proto, 1, 0), key(proto, 0, 1), key(proto, 65535, 65535), key(proto, -1, 0), key(proto, 0, math.MinInt))
		}
	}
	return l
}

func shows(t *testing.T, k api.Key, want string) {
	t.Helper()
	if s := flow.Show(k); s != want {
		t.Errorf("Show of %+v: %s, not %s", k, s, want)
	}
}

func TestExample(t *testing.T) {
	shows(t, key(api.Tcp, 4000, 80), "10.0.0.1:4000>10.0.0.2:80/tcp")
}

// P6.1.

// of fails unless the frame has this key, or none.
func of(t *testing.T, what string, f frame.Frame, want api.Key, ok bool) {
	t.Helper()
	if k, got := flow.Of(f); k != want || got != ok {
		t.Errorf("Of %s: %+v, %t; not %+v, %t", what, k, got, want, ok)
	}
}

func TestOf(t *testing.T) {
	for _, k := range goodKeys() {
		of(t, "a frame", packet(k), k, true)
		of(t, "a frame with a Body", packet(k, 1, 2, 3), k, true)
		if k.Proto == api.Tcp {
			f := packet(k)
			f.Ends.Seq, f.Ends.Ack, f.Ends.Flags, f.Ends.Win = 1, 2, 3, 4
			of(t, "a frame of Tcp", f, k, true)
		}
	}
}

func TestOfFramesThatMayNotBe(t *testing.T) {
	for _, k := range badKeys() {
		of(t, "a frame", packet(k), api.Key{}, false)
	}
	k := key(api.Udp, 4000, 80)
	for what, change := range map[string]func(f *frame.Frame){
		"Ttl 256":     func(f *frame.Frame) { f.Head.Ttl = 256 },
		"Id -1":       func(f *frame.Frame) { f.Head.Id = -1 },
		"Seq of Udp":  func(f *frame.Frame) { f.Ends.Seq = 1 },
		"an Arp":      func(f *frame.Frame) { f.Arp.Op = 1 },
		"too long":    func(f *frame.Frame) { f.Body = make([]byte, api.MaxFrame-41) },
		"another one": func(f *frame.Frame) { f.Type += 1 << 16 },
	} {
		f := packet(k)
		change(&f)
		of(t, what, f, api.Key{}, false)
	}
	f := packet(k, make([]byte, api.MaxFrame-42)...)
	of(t, "just as long", f, k, true)
}

func TestOfFramesOfOtherTypes(t *testing.T) {
	arp := frame.Frame{Src: ann, Dst: bob, Type: api.TypeArp, Arp: frame.Arp{Op: 1, Sha: ann, Spa: annIp, Tpa: bobIp}}
	of(t, "an Arp", arp, api.Key{}, false)
	for _, typ := range []int{1536, api.TypeIp - 1, api.TypeIp + 1, 65535} {
		of(t, "type "+strconv.Itoa(typ), frame.Frame{Src: ann, Dst: bob, Type: typ, Body: []byte{1}}, api.Key{}, false)
		f := packet(key(api.Udp, 1, 2))
		f.Type = typ
		of(t, "a Head in type "+strconv.Itoa(typ), f, api.Key{}, false)
	}
	of(t, "nothing", frame.Frame{}, api.Key{}, false)
}

func TestBack(t *testing.T) {
	want := api.Key{Src: bob, Dst: ann, SrcIp: bobIp, DstIp: annIp, Proto: api.Tcp, Sport: 80, Dport: 4000}
	if k := flow.Back(key(api.Tcp, 4000, 80)); k != want {
		t.Errorf("%+v, not %+v", k, want)
	}
}

// Each field of a key that may not be is exchanged, too.
func TestBackOfAnyKey(t *testing.T) {
	k := api.Key{Src: math.MaxUint64, Dst: 1 << 48, SrcIp: 1, DstIp: 2, Proto: -7, Sport: -1, Dport: math.MaxInt}
	want := api.Key{Src: 1 << 48, Dst: math.MaxUint64, SrcIp: 2, DstIp: 1, Proto: -7, Sport: math.MaxInt, Dport: -1}
	if b := flow.Back(k); b != want {
		t.Errorf("%+v, not %+v", b, want)
	}
}

// P6.2.

func TestGood(t *testing.T) {
	for _, k := range goodKeys() {
		if !flow.Good(k) {
			t.Errorf("%+v may not be", k)
		}
	}
	for _, k := range badKeys() {
		if flow.Good(k) {
			t.Errorf("%+v may be", k)
		}
	}
}

func TestPortsOfEachProto(t *testing.T) {
	for proto := range 256 {
		want := proto == api.Tcp || proto == api.Udp
		if !flow.Good(key(proto, 0, 0)) || flow.Good(key(proto, 7, 0)) != want || flow.Good(key(proto, 0, 7)) != want {
			t.Error("proto", proto)
		}
	}
}

// bytesOf is a key's bytes, written as text.
func bytesOf(t *testing.T, text string) []byte {
	t.Helper()
	b, err := hex.DecodeString(strings.ReplaceAll(text, " ", ""))
	if err != nil {
		t.Fatal(err)
	}
	return b
}

func TestBytesAndReadByHand(t *testing.T) {
	for _, c := range []struct {
		k    api.Key
		want string
	}{
		{key(api.Tcp, 4000, 80), "0A0000000001 0B0000000002 0A000001 0A000002 06 0FA0 0050"},
		{key(api.Udp, 1, 65535), "0A0000000001 0B0000000002 0A000001 0A000002 11 0001 FFFF"},
		{key(1, 0, 0), "0A0000000001 0B0000000002 0A000001 0A000002 01 0000 0000"},
		{api.Key{}, "000000000000 000000000000 00000000 00000000 00 0000 0000"},
		{widest, "FFFFFFFFFFFF FFFFFFFFFFFF FFFFFFFF FFFFFFFF FF 0000 0000"},
		{widePort, "FFFFFFFFFFFF FFFFFFFFFFFF FFFFFFFF FFFFFFFF 11 FFFF FFFF"},
		{api.Key{Src: 0x010203040506, Dst: 0x0708090A0B0C, SrcIp: 0x0D0E0F10, DstIp: 0x11121314, Proto: 6, Sport: 0x1516, Dport: 0x1718},
			"010203040506 0708090A0B0C 0D0E0F10 11121314 06 1516 1718"},
	} {
		b := bytesOf(t, c.want)
		if got := flow.Bytes(c.k); !bytes.Equal(got, b) || len(got) != flow.Size {
			t.Errorf("Bytes of %+v: %x, not %s", c.k, got, c.want)
		}
		reads(t, b, c.k, api.OK)
	}
}

func reads(t *testing.T, b []byte, want api.Key, e api.Errno) {
	t.Helper()
	if k, got := flow.Read(b); k != want || got != e {
		t.Errorf("Read of %x: %+v, %d; not %+v, %d", b, k, got, want, e)
	}
}

func TestSize(t *testing.T) {
	if flow.Size != 25 {
		t.Error(flow.Size)
	}
}

func TestBytesOfKeysThatMayNotBe(t *testing.T) {
	for _, k := range badKeys() {
		if b := flow.Bytes(k); len(b) != 0 {
			t.Errorf("Bytes of %+v: %x", k, b)
		}
	}
}

func TestReadOfOtherLengths(t *testing.T) {
	full := append(flow.Bytes(key(api.Udp, 1, 2)), make([]byte, 100)...)
	for n := range len(full) {
		if n != flow.Size {
			reads(t, full[:n], api.Key{}, api.ErrForm)
			reads(t, make([]byte, n), api.Key{}, api.ErrForm)
		}
	}
	reads(t, nil, api.Key{}, api.ErrForm)
	reads(t, make([]byte, 1<<20), api.Key{}, api.ErrForm)
	reads(t, make([]byte, flow.Size), api.Key{}, api.OK)
}

func TestReadOfPortsThatAProtoDoesNotHave(t *testing.T) {
	for proto := range 256 {
		for at := 21; at < flow.Size; at++ {
			b := flow.Bytes(key(proto, 0, 0))
			b[at] = 1
			if proto != api.Tcp && proto != api.Udp {
				reads(t, b, api.Key{}, api.ErrForm)
				continue
			}
			sport := int(b[21])<<8 + int(b[22])
			dport := int(b[23])<<8 + int(b[24])
			reads(t, b, key(proto, sport, dport), api.OK)
		}
	}
}

func compares(t *testing.T, a, b api.Key, want int) {
	t.Helper()
	if n := flow.Compare(a, b); n != want {
		t.Errorf("Compare of %+v and %+v: %d, not %d", a, b, n, want)
	}
	if n := flow.Compare(b, a); n != -want {
		t.Errorf("Compare of %+v and %+v: %d, not %d", b, a, n, -want)
	}
}

// fields tells of each field, in their order, how it is made greater.
var fields = []func(k *api.Key){
	func(k *api.Key) { k.Src++ },
	func(k *api.Key) { k.Dst++ },
	func(k *api.Key) { k.SrcIp++ },
	func(k *api.Key) { k.DstIp++ },
	func(k *api.Key) { k.Proto++ },
	func(k *api.Key) { k.Sport++ },
	func(k *api.Key) { k.Dport++ },
}

func TestCompareAtEachField(t *testing.T) {
	k := api.Key{Src: 5, Dst: 5, SrcIp: 5, DstIp: 5, Proto: 5, Sport: 5, Dport: 5}
	compares(t, k, k, 0)
	for i, more := range fields {
		a := k
		more(&a)
		compares(t, k, a, -1)
		b := k // all behind the field that is less are more, and count for nothing
		for _, later := range fields[i+1:] {
			later(&b)
			compares(t, b, a, -1)
		}
		compares(t, a, a, 0)
	}
}

func TestCompareOfFarNumbers(t *testing.T) {
	compares(t, api.Key{Src: math.MaxUint64}, api.Key{}, 1)
	compares(t, api.Key{Dst: 1 << 63}, api.Key{Dst: 1<<63 - 1}, 1)
	compares(t, api.Key{SrcIp: math.MaxUint32}, api.Key{SrcIp: 1}, 1)
	compares(t, api.Key{DstIp: 1 << 31}, api.Key{DstIp: 1<<31 - 1}, 1)
	compares(t, api.Key{Proto: math.MinInt}, api.Key{Proto: math.MaxInt}, -1)
	compares(t, api.Key{Sport: -1}, api.Key{}, -1)
	compares(t, api.Key{Dport: math.MinInt}, api.Key{Dport: 1}, -1)
	for _, k := range badKeys() {
		compares(t, k, k, 0)
	}
}

// P6.3.

func TestShow(t *testing.T) {
	shows(t, key(api.Udp, 5, 67), "10.0.0.1:5>10.0.0.2:67/udp")
	shows(t, key(api.Tcp, 0, 0), "10.0.0.1:0>10.0.0.2:0/tcp")
	shows(t, key(1, 0, 0), "10.0.0.1:0>10.0.0.2:0/1")
	shows(t, key(0, 0, 0), "10.0.0.1:0>10.0.0.2:0/0")
	shows(t, api.Key{}, "0.0.0.0:0>0.0.0.0:0/0")
	shows(t, widest, "255.255.255.255:0>255.255.255.255:0/255")
	shows(t, widePort, "255.255.255.255:65535>255.255.255.255:65535/udp")
	shows(t, api.Key{SrcIp: 0x01020304, DstIp: 0x0A640BFE, Proto: 6, Sport: 10, Dport: 100}, "1.2.3.4:10>10.100.11.254:100/tcp")
	shows(t, api.Key{SrcIp: 0xC0A80000, DstIp: 0x800000FF, Proto: 16}, "192.168.0.0:0>128.0.0.255:0/16")
}

func TestShowOfEachProto(t *testing.T) {
	for proto := range 256 {
		want := map[int]string{api.Tcp: "tcp", api.Udp: "udp"}[proto]
		if want == "" {
			want = strconv.Itoa(proto)
		}
		shows(t, key(proto, 0, 0), "10.0.0.1:0>10.0.0.2:0/"+want)
	}
}

func TestShowOfKeysThatMayNotBe(t *testing.T) {
	for _, k := range badKeys() {
		shows(t, k, "?")
	}
}

// P6.4.

// chance is a key that may be; its numbers are small ones mostly, so that keys are alike in many fields.
func chance(rnd *rand.Rand) api.Key {
	num := func(most uint64) uint64 {
		switch rnd.Intn(5) {
		case 0:
			return most
		case 1:
			return rnd.Uint64() & most
		case 2:
			return 256 & most
		}
		return uint64(rnd.Intn(2))
	}
	k := api.Key{
		Src: api.Mac(num(1<<48 - 1)), Dst: api.Mac(num(1<<48 - 1)),
		SrcIp: api.Ip(num(1<<32 - 1)), DstIp: api.Ip(num(1<<32 - 1)),
		Proto: int(num(255)),
	}
	if n := rnd.Intn(3); n < 2 {
		k.Proto = []int{api.Tcp, api.Udp}[n]
	}
	if k.Proto == api.Tcp || k.Proto == api.Udp {
		k.Sport, k.Dport = int(num(65535)), int(num(65535))
	}
	return k
}

func TestTheWayBackOfTheWayBack(t *testing.T) {
	for _, k := range slices.Concat(goodKeys(), badKeys()) {
		b := flow.Back(k)
		if flow.Back(b) != k {
			t.Errorf("%+v", k)
		}
		if flow.Good(b) != flow.Good(k) {
			t.Errorf("Good of %+v and its way back", k)
		}
	}
}

func TestKeysAreInTheOrderOfTheirBytes(t *testing.T) {
	rnd := rand.New(rand.NewSource(1))
	l := goodKeys()
	for range 300 {
		l = append(l, chance(rnd))
	}
	for _, a := range l {
		for _, b := range l {
			compares(t, a, b, bytes.Compare(flow.Bytes(a), flow.Bytes(b)))
			if (a == b) != bytes.Equal(flow.Bytes(a), flow.Bytes(b)) {
				t.Errorf("%+v and %+v", a, b)
			}
		}
	}
}

func TestReadGoesBack(t *testing.T) {
	rnd := rand.New(rand.NewSource(2))
	for range 5000 {
		k := chance(rnd)
		reads(t, flow.Bytes(k), k, api.OK)
		of(t, "a frame of it", packet(k), k, true)
		of(t, "a frame of the way back", packet(flow.Back(k)), flow.Back(k), true)
		b := make([]byte, flow.Size)
		rnd.Read(b)
		if rnd.Intn(3) == 0 {
			b[20] = api.Tcp
		}
		if k, e := flow.Read(b); e == api.OK && !bytes.Equal(flow.Bytes(k), b) {
			t.Errorf("%x is %x", b, flow.Bytes(k))
		} else if want := b[20] == api.Tcp || b[20] == api.Udp || bytes.Equal(b[21:], make([]byte, 4)); want != (e == api.OK) {
			t.Errorf("Read of %x: %d", b, e)
		}
	}
}

// P1, and the rules that hold everywhere.

func TestNumbersByChance(t *testing.T) {
	rnd := rand.New(rand.NewSource(3))
	far := []uint64{0, 1, 255, 256, 65535, 65536, 1 << 32, 1 << 48, 1 << 63, math.MaxUint64}
	num := func() uint64 { return far[rnd.Intn(len(far))] }
	for range 20000 {
		k := api.Key{Src: api.Mac(num()), Dst: api.Mac(num()), SrcIp: api.Ip(num()), DstIp: api.Ip(num()),
			Proto: int(num()), Sport: int(num()), Dport: int(num())}
		ok := flow.Good(k)
		if (len(flow.Bytes(k)) == flow.Size) != ok || (flow.Show(k) != "?") != ok {
			t.Errorf("%+v: %t", k, ok)
		}
		if _, got := flow.Of(packet(k)); got != ok {
			t.Errorf("Of %+v: %t", k, got)
		}
		if n := flow.Compare(k, flow.Back(k)); n != -flow.Compare(flow.Back(k), k) || n == 0 != (k == flow.Back(k)) {
			t.Errorf("Compare of %+v: %d", k, n)
		}
		if n := cmp.Compare(k.Src, k.Dst); n != 0 {
			compares(t, k, flow.Back(k), n)
		}
	}
}

func TestNoListIsChangedOrShared(t *testing.T) {
	k := key(api.Udp, 1, 2)
	a, b := flow.Bytes(k), flow.Bytes(k)
	clear(a)
	reads(t, b, k, api.OK)
	want := slices.Clone(b)
	flow.Read(b)
	if !bytes.Equal(b, want) {
		t.Errorf("Read changed its bytes: %x", b)
	}
	f := packet(k, 1, 2, 3)
	flow.Of(f)
	if !bytes.Equal(f.Body, []byte{1, 2, 3}) {
		t.Errorf("Of changed a Body: %x", f.Body)
	}
}
