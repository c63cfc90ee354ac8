package audit_test

import (
	"bytes"
	"encoding/hex"
	"math"
	"math/rand"
	"reflect"
	"slices"
	"strings"
	"testing"

	"ostiary/api"
	"ostiary/audit"
)

// unhex reads bytes that are written as text.
func unhex(t *testing.T, text string) []byte {
	t.Helper()
	b, err := hex.DecodeString(strings.ReplaceAll(text, " ", ""))
	if err != nil {
		t.Fatal(err)
	}
	return b
}

// show tells the first ones of a list's bytes.
func show(b []byte) string {
	if len(b) > 60 {
		return hex.EncodeToString(b[:60]) + ".."
	}
	return hex.EncodeToString(b)
}

// alike holds two against one another without Same, which is tested itself.
func alike(a, b audit.Rec) bool {
	if len(a.Path) == 0 && len(b.Path) == 0 {
		a.Path, b.Path = nil, nil
	}
	return reflect.DeepEqual(a, b)
}

// may fails unless the record may be, and is what its bytes are parsed as.
func may(t *testing.T, r audit.Rec) {
	t.Helper()
	if !audit.May(r) {
		t.Errorf("%+v may not be", r)
	}
	b, e := audit.Encode(r)
	if e != api.OK {
		t.Errorf("Encode of %+v: %d", r, e)
	}
	if len(b) >= 1024 { // P11.3
		t.Errorf("%+v has %d bytes", r, len(b))
	}
	parses(t, b, r, api.OK)
}

func mayNot(t *testing.T, r audit.Rec) {
	t.Helper()
	if audit.May(r) {
		t.Errorf("%+v may be", r)
	}
	if b, e := audit.Encode(r); e != api.ErrArg || len(b) != 0 {
		t.Errorf("Encode of %+v: %x, %d", r, b, e)
	}
}

func parses(t *testing.T, b []byte, want audit.Rec, e api.Errno) {
	t.Helper()
	if r, got := audit.Parse(b); !alike(r, want) || got != e {
		t.Errorf("Parse of %s: %+v, %d; not %+v, %d", show(b), r, got, want, e)
	}
}

func refuses(t *testing.T, b []byte) {
	t.Helper()
	parses(t, b, audit.Rec{}, api.ErrForm)
}

func TestExample(t *testing.T) {
	r := audit.Rec{Kind: audit.Revoke, Time: 5, Name: "ann"}
	want := []byte{0x05, 0, 0, 0, 0, 0x05, 0x03, 0x61, 0x6E, 0x6E}
	if b, e := audit.Encode(r); e != api.OK || !bytes.Equal(b, want) {
		t.Errorf("%x, %d", b, e)
	}
	parses(t, want, r, api.OK)
}

func TestKindsAreNumbered(t *testing.T) {
	for i, k := range kinds {
		if k.kind != i+1 {
			t.Errorf("kind %d is number %d", k.kind, i+1)
		}
	}
}

// P11.1: May and Encode.

func TestMayOfFullLeastAndMost(t *testing.T) {
	for _, k := range kinds {
		may(t, full(k.kind, k.has))
		may(t, least(k.kind, k.has))
		may(t, most(k.kind, k.has))
		none := audit.Rec{Kind: k.kind}
		if alike(none, least(k.kind, k.has)) {
			may(t, none)
		} else {
			mayNot(t, none)
		}
	}
	mayNot(t, audit.Rec{})
}

func TestMayOfEachField(t *testing.T) {
	for _, k := range kinds {
		for _, f := range fields {
			for _, v := range f.good {
				r := full(k.kind, k.has)
				f.put(&r, v)
				if has(k.has, f.name) || v == 0 {
					may(t, r)
				} else {
					mayNot(t, r)
				}
			}
			for _, v := range f.bad {
				r := full(k.kind, k.has)
				f.put(&r, v)
				if v == 0 && !has(k.has, f.name) {
					may(t, r)
				} else {
					mayNot(t, r)
				}
			}
		}
	}
}

func TestMayOfNames(t *testing.T) {
	for _, k := range kinds {
		for _, n := range names {
			for _, s := range goodNames {
				r := full(k.kind, k.has)
				n.put(&r, s)
				if has(k.has, n.name) {
					may(t, r)
				} else {
					mayNot(t, r)
				}
			}
			for _, s := range badNames {
				r := full(k.kind, k.has)
				n.put(&r, s)
				if s == "" && !has(k.has, n.name) {
					may(t, r)
				} else {
					mayNot(t, r)
				}
			}
		}
	}
}

func TestMayOfTexts(t *testing.T) {
	for _, k := range kinds {
		for _, n := range []int{0, 1, 2, 255, 256, 257, 799, 800, 801, 802, 1023, 1024, 4096, 65536, 65537, 65536 + 800} {
			for _, part := range []string{"a", "\x00", "\xff", "\n"} {
				r := full(k.kind, k.has)
				r.Text = strings.Repeat(part, n)
				if n == 0 || n <= 800 && has(k.has, "Text") {
					may(t, r)
				} else {
					mayNot(t, r)
				}
			}
		}
	}
}

func TestMayOfKeys(t *testing.T) {
	for _, k := range kinds {
		r := full(k.kind, k.has)
		for _, key := range goodKeys {
			r.Key = key
			if has(k.has, "Key") || key == (api.Key{}) {
				may(t, r)
			} else {
				mayNot(t, r)
			}
		}
		for _, key := range badKeys {
			r.Key = key
			mayNot(t, r)
		}
	}
}

func TestMayOfPaths(t *testing.T) {
	for _, k := range kinds {
		r := full(k.kind, k.has)
		for _, n := range []int{0, 1, 2, 3, 31, 59, 60, 61, 62, 64, 255, 256, 257, 256 + 60, 65536, 65537} {
			r.Path = hops(n)
			if has(k.has, "Path") == (n >= 1 && n <= 60) && (n == 0 || has(k.has, "Path")) {
				may(t, r)
			} else {
				mayNot(t, r)
			}
		}
		r.Path = []api.Hop{}
		if has(k.has, "Path") {
			mayNot(t, r)
		} else {
			may(t, r)
		}
		r.Path = []api.Hop{{}}
		mayNot(t, r)
	}
}

func TestMayOfHops(t *testing.T) {
	puts := []func(h *api.Hop, v int){func(h *api.Hop, v int) { h.Sw = v }, func(h *api.Hop, v int) { h.In = v }, func(h *api.Hop, v int) { h.Out = v }}
	admit := kinds[audit.Admit-1]
	for _, n := range []int{1, 2, 5, 60} {
		for at := range n {
			for _, put := range puts {
				r := full(audit.Admit, admit.has)
				r.Path = hops(n)
				for v := 1; v <= 8; v++ {
					put(&r.Path[at], v)
					may(t, r)
				}
				for _, v := range badOnes {
					put(&r.Path[at], int(v))
					mayNot(t, r)
				}
			}
		}
	}
	r := full(audit.Admit, admit.has)
	r.Path = slices.Repeat([]api.Hop{{Sw: 5, In: 5, Out: 5}}, 60) // whether a way can be gone is not asked
	may(t, r)
}

func TestMayOfOtherKinds(t *testing.T) {
	for _, kind := range badKinds {
		mayNot(t, audit.Rec{Kind: kind})
		for _, k := range kinds {
			mayNot(t, full(kind, k.has))
			mayNot(t, least(kind, k.has))
		}
		mayNot(t, full(kind, all))
		mayNot(t, least(kind, all))
	}
	for _, k := range kinds { // none has them all
		mayNot(t, full(k.kind, all))
	}
}

// A record of one kind is none of another one, unless that has its fields, too, and needs no other one.
func TestMayOfAnotherKindsFields(t *testing.T) {
	more := [][2]int{{audit.User, audit.Revoke}, {audit.Host, audit.Revoke}, {audit.Logoff, audit.Revoke}, {audit.Lease, audit.Unlet}}
	for _, k := range kinds {
		for _, other := range kinds {
			r := full(k.kind, other.has)
			if k.kind == other.kind || slices.Contains(more, [2]int{k.kind, other.kind}) {
				may(t, r)
			} else {
				mayNot(t, r)
			}
		}
	}
}

// P11.1: Same.

func same(t *testing.T, a, b audit.Rec, want bool) {
	t.Helper()
	if audit.Same(a, b) != want || audit.Same(b, a) != want {
		t.Errorf("Same of %+v and %+v: %t", a, b, !want)
	}
}

// changes are such that each one makes another record.
var changes = []func(r *audit.Rec){
	func(r *audit.Rec) { r.Kind++ }, func(r *audit.Rec) { r.Kind -= 1 << 32 }, func(r *audit.Rec) { r.Time++ }, func(r *audit.Rec) { r.Time -= 1 << 40 },
	func(r *audit.Rec) { r.Epoch++ }, func(r *audit.Rec) { r.Flow++ }, func(r *audit.Rec) { r.Why++ }, func(r *audit.Rec) { r.Rule-- },
	func(r *audit.Rec) { r.Name += "x" }, func(r *audit.Rec) { r.Text += "\x00" }, func(r *audit.Rec) { r.Text = "x" + r.Text },
	func(r *audit.Rec) { r.A++ }, func(r *audit.Rec) { r.B++ }, func(r *audit.Rec) { r.A ^= 1 << 63 }, func(r *audit.Rec) { r.B ^= 1 << 63 },
	func(r *audit.Rec) { r.Mac++ }, func(r *audit.Rec) { r.Mac ^= 1 << 63 }, func(r *audit.Rec) { r.Ip++ }, func(r *audit.Rec) { r.Until++ },
	func(r *audit.Rec) { r.From.Sw++ }, func(r *audit.Rec) { r.From.Port++ }, func(r *audit.Rec) { r.To.Sw++ }, func(r *audit.Rec) { r.To.Port++ },
	func(r *audit.Rec) { r.Src.User += "x" }, func(r *audit.Rec) { r.Src.Host += "x" }, func(r *audit.Rec) { r.Dst.User += "x" }, func(r *audit.Rec) { r.Dst.Host += "x" },
	func(r *audit.Rec) { r.Key.Src++ }, func(r *audit.Rec) { r.Key.Dst++ }, func(r *audit.Rec) { r.Key.SrcIp++ }, func(r *audit.Rec) { r.Key.DstIp++ },
	func(r *audit.Rec) { r.Key.Proto++ }, func(r *audit.Rec) { r.Key.Sport++ }, func(r *audit.Rec) { r.Key.Dport++ },
	func(r *audit.Rec) { r.Path = append(slices.Clone(r.Path), api.Hop{}) },
	func(r *audit.Rec) { r.Path = append([]api.Hop{{Sw: 9}}, r.Path...) },
}

func TestSame(t *testing.T) {
	list := []audit.Rec{{}, {Kind: -1, Time: math.MinInt64, Why: math.MaxInt, Key: badKeys[0], Path: []api.Hop{{}}}}
	for _, k := range kinds {
		list = append(list, full(k.kind, k.has), least(k.kind, k.has), most(k.kind, k.has))
	}
	for i, a := range list {
		for n, change := range changes {
			b := a
			change(&b)
			if same(t, a, b, false); alike(a, b) {
				t.Error("change", n, "is none")
			}
		}
		for j, b := range list {
			same(t, a, b, i == j)
		}
		b := a
		b.Path = slices.Clone(a.Path)
		same(t, a, b, true)
	}
	same(t, audit.Rec{Path: nil}, audit.Rec{Path: []api.Hop{}}, true)
}

func TestSameHopByHop(t *testing.T) {
	a := audit.Rec{Path: hops(5)}
	for at := range a.Path {
		for _, change := range []func(h *api.Hop){func(h *api.Hop) { h.Sw++ }, func(h *api.Hop) { h.In++ }, func(h *api.Hop) { h.Out++ }} {
			b := audit.Rec{Path: hops(5)}
			same(t, a, b, true)
			change(&b.Path[at])
			same(t, a, b, false)
		}
		same(t, a, audit.Rec{Path: hops(5)[:at]}, false)
	}
	b := audit.Rec{Path: hops(5)}
	slices.Reverse(b.Path)
	same(t, a, b, false)
}

// P11.2.

func TestBack(t *testing.T) {
	rnd := rand.New(rand.NewSource(1))
	seen := map[string]audit.Rec{}
	for range 10000 {
		r := chance(rnd)
		may(t, r)
		b, e := audit.Encode(r)
		if want := bytesOf(r, kinds[r.Kind-1].has); e != api.OK || !bytes.Equal(b, want) {
			t.Fatalf("Encode of %+v: %x, %d; not %x", r, b, e, want)
		}
		if was, ok := seen[string(b)]; ok && !alike(was, r) {
			t.Errorf("%+v and %+v are %x", was, r, b)
		}
		seen[string(b)] = r
	}
}

// Records that are unlike in one field alone have unlike bytes.
func TestUnlikeRecordsHaveUnlikeBytes(t *testing.T) {
	for _, k := range kinds {
		for _, r := range []audit.Rec{full(k.kind, k.has), least(k.kind, k.has)} {
			b, _ := audit.Encode(r)
			for n, change := range changes {
				other := r
				change(&other)
				if c, e := audit.Encode(other); e == api.OK && bytes.Equal(b, c) {
					t.Errorf("change %d of %+v: %x too", n, r, c)
				}
			}
		}
	}
}

// P11.3.

func TestMostBytes(t *testing.T) {
	for _, k := range kinds {
		b, e := audit.Encode(most(k.kind, k.has))
		if e != api.OK || len(b) >= 1024 || !bytes.Equal(b, bytesOf(most(k.kind, k.has), k.has)) {
			t.Errorf("kind %d: %d bytes, %d", k.kind, len(b), e)
		}
	}
	for kind, n := range map[int]int{audit.Policy: 808, audit.Admit: 261} {
		if b, _ := audit.Encode(most(kind, kinds[kind-1].has)); len(b) != n {
			t.Errorf("kind %d: %d bytes, not %d", kind, len(b), n)
		}
	}
}

// The rules that hold everywhere.

func TestNoListIsChangedOrShared(t *testing.T) {
	r := full(audit.Admit, kinds[audit.Admit-1].has)
	was := slices.Clone(r.Path)
	a, _ := audit.Encode(r)
	b, _ := audit.Encode(r)
	clear(a)
	if !slices.Equal(r.Path, was) || !bytes.Equal(b, bytesOf(r, kinds[audit.Admit-1].has)) {
		t.Errorf("Encode shares a list: %v, %x", r.Path, b)
	}
	bytesWere := slices.Clone(b)
	x, _ := audit.Parse(b)
	y, _ := audit.Parse(b)
	clear(x.Path)
	_ = append(x.Path[:0], api.Hop{}, api.Hop{}, api.Hop{})
	if !bytes.Equal(b, bytesWere) || !alike(y, r) {
		t.Errorf("Parse shares a list: %x, %+v", b, y)
	}
	clear(b)
	if !alike(y, r) {
		t.Errorf("what was parsed is %+v now", y)
	}
	path := append(hops(3), api.Hop{Sw: 9}, api.Hop{Sw: 9})
	r.Path = path[:3]
	audit.May(r)
	audit.Encode(r)
	audit.Same(r, r)
	if !slices.Equal(path, append(hops(3), api.Hop{Sw: 9}, api.Hop{Sw: 9})) {
		t.Errorf("what was handed in is %v now", path)
	}
}

// What was parsed stays as it was, whatever is written into the bytes later.
func TestNamesAndTextsAreNotKept(t *testing.T) {
	for _, k := range kinds {
		b := unhex(t, k.bytes)
		r, e := audit.Parse(b)
		for i := range b {
			b[i] = 0x7A
		}
		if e != api.OK || !alike(r, full(k.kind, k.has)) {
			t.Errorf("kind %d: %+v, %d", k.kind, r, e)
		}
	}
}
