package shelf_test

import (
	"math"
	"math/rand"
	"slices"
	"testing"

	"ostiary/shelf"
)

// row fails unless the ring has just these things, in order.
func row(t *testing.T, r *shelf.Ring[int], want ...int) {
	t.Helper()
	if got := r.All(); !slices.Equal(got, want) || r.Len() != len(want) {
		t.Fatalf("All %v, Len %d; not %v", got, r.Len(), want)
	}
	for i, v := range want {
		if got, ok := r.At(i); got != v || !ok {
			t.Fatalf("At(%d): %d, %t; not %d", i, got, ok, v)
		}
	}
}

func gets(t *testing.T, what string, got int, ok bool, want int, wantOk bool) {
	t.Helper()
	if got != want || ok != wantOk {
		t.Errorf("%s: %d, %t; not %d, %t", what, got, ok, want, wantOk)
	}
}

func ring(most int, l ...int) *shelf.Ring[int] {
	r := shelf.NewRing[int](most)
	r.Put(l...)
	return r
}

func TestRingExample(t *testing.T) {
	r := shelf.NewRing[int](2)
	if !r.Put(1, 2) {
		t.Error("Put")
	}
	v, ok := r.Push(3)
	gets(t, "Push", v, ok, 1, true)
	v, ok = r.Cut(0)
	gets(t, "Cut", v, ok, 2, true)
	row(t, r, 3)
}

// The sentence ahead of P2.1.
func TestNilRing(t *testing.T) {
	var r *shelf.Ring[int]
	if r.Put(1) || r.Put() || r.Len() != 0 || len(r.All()) != 0 {
		t.Error("a nil ring has something")
	}
	v, ok := r.Push(7)
	gets(t, "Push", v, ok, 0, false)
	v, ok = r.Take()
	gets(t, "Take", v, ok, 0, false)
	for _, i := range []int{math.MinInt, -1, 0, 1, math.MaxInt} {
		v, ok = r.Cut(i)
		gets(t, "Cut", v, ok, 0, false)
		v, ok = r.At(i)
		gets(t, "At", v, ok, 0, false)
	}
}

// P2.1.

func TestPut(t *testing.T) {
	r := shelf.NewRing[int](4)
	row(t, r)
	if !r.Put() || !r.Put(5) || !r.Put(6, 5) {
		t.Error("Put")
	}
	row(t, r, 5, 6, 5)
	if r.Put(7, 8) {
		t.Error("two in the room of one")
	}
	row(t, r, 5, 6, 5)
	if !r.Put(7) {
		t.Error("one in the room of one")
	}
	if r.Put(8) || r.Put(8, 9) || !r.Put() {
		t.Error("a full ring")
	}
	row(t, r, 5, 6, 5, 7)
}

func TestPutIntoAnEmptyRing(t *testing.T) {
	r := shelf.NewRing[int](3)
	if r.Put(1, 2, 3, 4) {
		t.Error("four in the room of three")
	}
	row(t, r)
	if !r.Put(1, 2, 3) {
		t.Error("three in the room of three")
	}
	row(t, r, 1, 2, 3)
}

func TestPush(t *testing.T) {
	r := shelf.NewRing[int](2)
	for i, want := range []struct {
		v  int
		ok bool
	}{{0, false}, {0, false}, {10, true}, {11, true}, {12, true}} {
		v, ok := r.Push(10 + i)
		gets(t, "Push", v, ok, want.v, want.ok)
	}
	row(t, r, 13, 14)
	r.Take()
	v, ok := r.Push(15)
	gets(t, "Push with room", v, ok, 0, false)
	row(t, r, 14, 15)
}

func TestPushOfARingForOne(t *testing.T) {
	r := ring(1, 4)
	v, ok := r.Push(5)
	gets(t, "Push", v, ok, 4, true)
	row(t, r, 5)
}

func TestRingForNone(t *testing.T) {
	for _, most := range []int{0, -1, -1 << 40, math.MinInt} {
		r := shelf.NewRing[int](most)
		if r.Put(1) || r.Put(1, 2) || !r.Put() {
			t.Error("Put into a ring for none")
		}
		v, ok := r.Push(7)
		gets(t, "Push", v, ok, 7, true)
		row(t, r)
		v, ok = r.Take()
		gets(t, "Take", v, ok, 0, false)
		v, ok = r.Cut(0)
		gets(t, "Cut", v, ok, 0, false)
		v, ok = r.At(0)
		gets(t, "At", v, ok, 0, false)
	}
}

func TestRingForAsManyAsThereAre(t *testing.T) {
	r := shelf.NewRing[int](math.MaxInt)
	if !r.Put(1, 2) {
		t.Error("Put")
	}
	v, ok := r.Push(3)
	gets(t, "Push", v, ok, 0, false)
	row(t, r, 1, 2, 3)
}

func TestTake(t *testing.T) {
	r := ring(3, 1, 2, 3)
	for i := 1; i <= 3; i++ {
		v, ok := r.Take()
		gets(t, "Take", v, ok, i, true)
	}
	v, ok := r.Take()
	gets(t, "Take of none", v, ok, 0, false)
	row(t, r)
	if !r.Put(4, 5, 6) || r.Put(7) {
		t.Error("Put behind Take")
	}
	row(t, r, 4, 5, 6)
}

func TestCut(t *testing.T) {
	all := []int{10, 11, 12, 13, 14}
	for i := range all {
		r := ring(5, all...)
		v, ok := r.Cut(i)
		gets(t, "Cut", v, ok, all[i], true)
		left := slices.Delete(slices.Clone(all), i, i+1)
		row(t, r, left...)
		if !r.Put(15) || r.Put(16) {
			t.Error("there is room for one behind Cut")
		}
		row(t, r, append(left, 15)...)
	}
}

func TestCutAndAtBeyond(t *testing.T) {
	r := ring(5, 1, 2, 3)
	for _, i := range []int{math.MinInt, -2, -1, 3, 4, 5, math.MaxInt} {
		v, ok := r.Cut(i)
		gets(t, "Cut", v, ok, 0, false)
		v, ok = r.At(i)
		gets(t, "At", v, ok, 0, false)
	}
	row(t, r, 1, 2, 3)
}

// P2.3, and all calls together: a ring held against a plain list.
func TestRingAgainstList(t *testing.T) {
	rnd := rand.New(rand.NewSource(3))
	for most := range 9 {
		r, want, next := shelf.NewRing[int](most), []int{}, 1
		for range 3000 {
			switch rnd.Intn(5) {
			case 0:
				l := make([]int, rnd.Intn(4))
				for i := range l {
					l[i] = next
					next++
				}
				fits := len(want)+len(l) <= most
				if r.Put(l...) != fits {
					t.Fatalf("Put of %d behind %d of %d", len(l), len(want), most)
				}
				if fits {
					want = append(want, l...)
				}
			case 1:
				v, ok := r.Push(next)
				first, gone := 0, len(want) == most
				want = append(want, next)
				if gone {
					first, want = want[0], want[1:]
				}
				gets(t, "Push", v, ok, first, gone)
				next++
			case 2:
				v, ok := r.Take()
				if len(want) == 0 {
					gets(t, "Take", v, ok, 0, false)
				} else {
					gets(t, "Take", v, ok, want[0], true)
					want = want[1:]
				}
			case 3:
				i := rnd.Intn(most+3) - 1
				v, ok := r.Cut(i)
				if i < 0 || i >= len(want) {
					gets(t, "Cut", v, ok, 0, false)
				} else {
					gets(t, "Cut", v, ok, want[i], true)
					want = slices.Concat(want[:i], want[i+1:])
				}
			}
			row(t, r, want...)
		}
	}
}

func TestFirstInFirstOut(t *testing.T) {
	r := shelf.NewRing[int](100)
	next := 0
	for round := range 50 {
		for k := range 20 {
			if !r.Put(20*round + k) {
				t.Fatal("Put")
			}
		}
		for range 20 {
			v, ok := r.Take()
			gets(t, "Take", v, ok, next, true)
			next++
		}
	}
	row(t, r)
}

// P2.5, and that what is handed in is not kept.
func TestRingSharesNothing(t *testing.T) {
	l := []int{1, 2}
	r := shelf.NewRing[int](9)
	r.Put(l...)
	l[0] = 99
	row(t, r, 1, 2)
	a, b := r.All(), r.All()
	a[0] = 98
	_ = append(a[:1], 97)
	_ = append(b, 96)
	r.Put(3)
	if b[0] != 1 || b[1] != 2 || a[1] != 97 {
		t.Error("two lists that were told share something", a, b)
	}
	row(t, r, 1, 2, 3)
	r.Take()
	if l[1] != 2 || b[0] != 1 {
		t.Error("Take writes into what was handed in, or told", l, b)
	}
}

func TestRingOfAnyKind(t *testing.T) {
	type thing struct {
		s string
		p *int
	}
	n := 5
	r := shelf.NewRing[thing](1)
	r.Push(thing{"a", &n})
	if v, ok := r.Push(thing{s: "b"}); v != (thing{"a", &n}) || !ok {
		t.Error("Push", v, ok)
	}
	r.Take()
	if v, ok := r.Take(); v != (thing{}) || ok {
		t.Error("Take of none", v, ok)
	}
}
