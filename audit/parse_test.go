package audit_test

import (
	"bytes"
	"math/rand"
	"slices"
	"strings"
	"testing"

	"ostiary/api"
	"ostiary/audit"
)

// P11.1: Encode and Parse.

func TestEncodeAndParseByHand(t *testing.T) {
	for _, k := range kinds {
		r, want := full(k.kind, k.has), unhex(t, k.bytes)
		if b, e := audit.Encode(r); e != api.OK || !bytes.Equal(b, want) {
			t.Errorf("Encode of %+v: %x, %d; not %x", r, b, e, want)
		}
		parses(t, want, r, api.OK)
	}
}

func TestEncodeAndParseAtTheEdges(t *testing.T) {
	who := audit.Who{User: "a", Host: "b"}
	for _, c := range []struct {
		r    audit.Rec
		want string
	}{
		{audit.Rec{Kind: audit.Epoch}, "01 0000000000 00000000"},
		{audit.Rec{Kind: audit.Epoch, Time: api.MaxTime - 1, Epoch: 1<<32 - 1}, "01 FFFFFFFFFF FFFFFFFF"},
		{audit.Rec{Kind: audit.Policy, Time: 1}, "02 0000000001 0000"},
		{audit.Rec{Kind: audit.Policy, Text: strings.Repeat("a", 256)}, "02 0000000000 0100" + strings.Repeat("61", 256)},
		{audit.Rec{Kind: audit.Policy, Text: strings.Repeat("\n", 800)}, "02 0000000000 0320" + strings.Repeat("0A", 800)},
		{audit.Rec{Kind: audit.User, Name: "z", A: 1, B: 2}, "03 0000000000 017A 0000000000000001 0000000000000002"},
		{audit.Rec{Kind: audit.Host, Name: "a2345678", Mac: api.Anybody}, "04 0000000000 086132333435363738 FFFFFFFFFFFF"},
		{audit.Rec{Kind: audit.Lease, Mac: 1, Ip: 2, Until: api.MaxTime - 1}, "06 0000000000 000000000001 00000002 FFFFFFFFFF"},
		{audit.Rec{Kind: audit.Unlet}, "07 0000000000 000000000000 00000000"},
		{audit.Rec{Kind: audit.Login, Name: "a", From: api.Place{Sw: 8, Port: 1}}, "08 0000000000 0161 000000000000 00000000 08 01"},
		{audit.Rec{Kind: audit.Logoff, Name: "a", Why: 255}, "09 0000000000 FF 0161"},
		{audit.Rec{Kind: audit.Admit, Epoch: 1, Flow: 2, Rule: 3, From: api.Place{Sw: 1, Port: 8}, To: api.Place{Sw: 8, Port: 2}, Src: who, Dst: audit.Who{User: "c", Host: "d"}, Path: []api.Hop{{Sw: 8, In: 1, Out: 7}}},
			"0A 0000000000 00000001 00000002 03 01 08 08 02 0161 0162 0163 0164" + strings.Repeat("00", 25) + "01 08 01 07"},
		{audit.Rec{Kind: audit.Deny, From: api.Place{Sw: 2, Port: 3}}, "0B 0000000000 00 02 03" + strings.Repeat("00", 25)},
	} {
		want := unhex(t, c.want)
		if b, e := audit.Encode(c.r); e != api.OK || !bytes.Equal(b, want) {
			t.Errorf("Encode of %+v: %x, %d; not %x", c.r, b, e, want)
		}
		parses(t, want, c.r, api.OK)
	}
}

func TestParseOfOtherLengths(t *testing.T) {
	for _, k := range kinds {
		for _, r := range []audit.Rec{full(k.kind, k.has), least(k.kind, k.has), most(k.kind, k.has)} {
			b := bytesOf(r, k.has)
			for n := range b {
				refuses(t, b[:n])
			}
			for n := 1; n < 70; n++ {
				refuses(t, append(slices.Clone(b), make([]byte, n)...))
			}
			refuses(t, append([]byte{0}, b...))
			refuses(t, append(slices.Clone(b), b...))
			refuses(t, append(slices.Clone(b), bytes.Repeat([]byte{0xFF}, 1<<16)...))
		}
	}
	refuses(t, nil)
	refuses(t, []byte{})
	refuses(t, make([]byte, 1<<20))
}

func TestParseOfOtherKinds(t *testing.T) {
	for kind := range 256 {
		if kind >= audit.Epoch && kind <= audit.Deny {
			continue
		}
		refuses(t, []byte{byte(kind)})
		refuses(t, []byte{byte(kind), 0, 0, 0, 0, 0})
		refuses(t, bytesOf(full(kind, all), all))
		for _, k := range kinds {
			b := unhex(t, k.bytes)
			b[0] = byte(kind)
			refuses(t, b)
		}
	}
}

// A kind's bytes are another one's only where they can be read as all of its fields.
func TestParseOfTheBytesOfAnotherKind(t *testing.T) {
	const time = 0x2122232425
	others := map[[2]int]audit.Rec{
		{audit.Revoke, audit.Epoch}: {Kind: audit.Epoch, Time: time, Epoch: 0x03616E6E},
		{audit.Host, audit.Unlet}:   {Kind: audit.Unlet, Time: time, Mac: 0x03616E6E0A0B, Ip: 0x0C0D0E0F},
	}
	for _, from := range kinds {
		for _, to := range kinds {
			b := unhex(t, from.bytes)
			b[0] = byte(to.kind)
			if from.kind == to.kind {
				parses(t, b, full(to.kind, to.has), api.OK)
			} else if r, ok := others[[2]int{from.kind, to.kind}]; ok {
				parses(t, b, r, api.OK)
			} else {
				refuses(t, b)
			}
		}
	}
}

func TestParseOfNames(t *testing.T) {
	for _, s := range append(slices.Clone(goodNames), badNames...) {
		if len(s) > 255 {
			continue
		}
		for _, k := range kinds {
			for _, n := range names {
				if !has(k.has, n.name) {
					continue
				}
				r := full(k.kind, k.has)
				n.put(&r, s)
				b := bytesOf(r, k.has)
				if slices.Contains(goodNames, s) {
					parses(t, b, r, api.OK)
				} else {
					refuses(t, b)
				}
			}
		}
	}
}

// A length of a name that is not that of what stands there.
func TestParseOfNamesOfOtherLengths(t *testing.T) {
	for n := range 256 {
		b := append([]byte{audit.Revoke, 0, 0, 0, 0, 1, byte(n)}, "annabel"...)
		if n == 7 {
			parses(t, b, audit.Rec{Kind: audit.Revoke, Time: 1, Name: "annabel"}, api.OK)
		} else {
			refuses(t, b)
		}
		if n > 8 {
			refuses(t, append([]byte{audit.Revoke, 0, 0, 0, 0, 1, byte(n)}, strings.Repeat("a", n)...))
		}
	}
}

func TestParseOfTextsOfOtherLengths(t *testing.T) {
	text := bytes.Repeat([]byte("abc"), 300)
	for n := range len(text) {
		b := append([]byte{audit.Policy, 0, 0, 0, 0, 1, byte(n >> 8), byte(n)}, text[:n]...)
		if n <= 800 {
			parses(t, b, audit.Rec{Kind: audit.Policy, Time: 1, Text: string(text[:n])}, api.OK)
		} else {
			refuses(t, b)
		}
		refuses(t, append(slices.Clone(b), 'd'))
		if n > 0 {
			refuses(t, b[:len(b)-1])
		}
	}
	long := append([]byte{audit.Policy, 0, 0, 0, 0, 1, 0xFF, 0xFF}, make([]byte, 65535)...)
	refuses(t, long)
	refuses(t, append([]byte{audit.Policy, 0, 0, 0, 0, 1, 0xFF, 0xFF}, text...))
}

// Each byte in which a number from 1 to 8 stands.
func TestParseOfNumbersThatMayNotBe(t *testing.T) {
	for _, c := range []struct {
		kind int
		ats  []int
	}{
		{audit.Login, []int{20, 21}},
		{audit.Deny, []int{7, 8}},
		{audit.Admit, []int{15, 16, 17, 18, 62, 63, 64, 65, 66, 67}},
	} {
		for _, at := range c.ats {
			for v := range 256 {
				b := unhex(t, kinds[c.kind-1].bytes)
				b[at] = byte(v)
				if v < 1 || v > 8 {
					refuses(t, b)
				} else if r, e := audit.Parse(b); e != api.OK || !bytes.Equal(bytesOf(r, kinds[c.kind-1].has), b) {
					t.Errorf("%x: %+v, %d", b, r, e)
				}
			}
		}
	}
}

func TestParseOfKeys(t *testing.T) {
	for _, kind := range []int{audit.Admit, audit.Deny} {
		k := kinds[kind-1]
		for proto := range 256 {
			r := full(kind, k.has)
			r.Key.Proto = proto
			if proto == api.Tcp || proto == api.Udp {
				parses(t, bytesOf(r, k.has), r, api.OK)
			} else {
				refuses(t, bytesOf(r, k.has))
			}
			r.Key.Sport = 0
			if proto != api.Tcp && proto != api.Udp {
				refuses(t, bytesOf(r, k.has))
			}
			r.Key.Dport = 0
			parses(t, bytesOf(r, k.has), r, api.OK)
		}
		r := full(kind, k.has) // all noughts but for a port of no protocol: to be told from a key of noughts
		r.Key = api.Key{Dport: 1}
		refuses(t, bytesOf(r, k.has))
	}
}

func TestParseOfPaths(t *testing.T) {
	k := kinds[audit.Admit-1]
	r := full(audit.Admit, k.has)
	for n := range 256 {
		r.Path = hops(n)
		b := bytesOf(r, k.has)
		if n < 1 || n > 60 {
			refuses(t, b)
			continue
		}
		parses(t, b, r, api.OK)
		at := len(b) - 3*n - 1 // how many hops
		for other := range 256 {
			b[at] = byte(other)
			if other != n {
				refuses(t, b)
			}
		}
	}
}

// P11.2: whatever bytes are parsed as a record, they are that record's.
func TestForth(t *testing.T) {
	rnd := rand.New(rand.NewSource(2))
	good := 0
	for range 40000 {
		b, _ := audit.Encode(chance(rnd))
		for range 1 + rnd.Intn(3) {
			switch at := rnd.Intn(min(len(b), 70)); rnd.Intn(5) {
			case 0:
				b[at] ^= 1 << rnd.Intn(8)
			case 1:
				b[at] = byte(rnd.Intn(12))
			case 2:
				b[0] = byte(rnd.Intn(13))
			case 3:
				b = append(slices.Delete(b, at, at+1), 0)
			case 4:
				b = slices.Insert(b, at, byte(rnd.Intn(12)))
			}
		}
		r, e := audit.Parse(b)
		if e != api.OK {
			refuses(t, b)
			continue
		}
		good++
		if back, e := audit.Encode(r); e != api.OK || !bytes.Equal(back, b) || !bytes.Equal(bytesOf(r, kinds[r.Kind-1].has), b) {
			t.Errorf("%x is parsed as %+v, %x, %d", b, r, back, e)
		}
	}
	if good < 4000 {
		t.Error("too few are records:", good)
	}
}

// P1.

func TestBytesByChance(t *testing.T) {
	rnd := rand.New(rand.NewSource(3))
	for range 40000 {
		b := make([]byte, rnd.Intn(300))
		rnd.Read(b)
		for at := range min(len(b), rnd.Intn(100)) {
			b[at] = byte(rnd.Intn(12))
		}
		if r, e := audit.Parse(b); e == api.OK && !audit.May(r) || e != api.OK && (e != api.ErrForm || !alike(r, audit.Rec{})) {
			t.Errorf("%x is %+v, %d", b, r, e)
		}
	}
}

// Many of one kind: no list may be read as longer than it is.
func TestBytesOfOneValue(t *testing.T) {
	for kind := range 13 {
		for _, c := range []byte{0, 1, 8, 'a', 0x7F, 0xFF} {
			for n := range 300 {
				b := append([]byte{byte(kind)}, bytes.Repeat([]byte{c}, n)...)
				r, e := audit.Parse(b)
				if e == api.OK && !bytes.Equal(bytesOf(r, kinds[kind-1].has), b) || e != api.OK && (e != api.ErrForm || !alike(r, audit.Rec{})) {
					t.Errorf("%s: %+v, %d", show(b), r, e)
				}
			}
		}
	}
}
