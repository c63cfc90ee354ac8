package shelf_test

import (
	"cmp"
	"math"
	"math/rand"
	"slices"
	"testing"

	"ostiary/api"
	"ostiary/shelf"
)

type names = shelf.Shelf[int, string]

// has fails unless the shelf has just these things, by these keys, which rise.
func has(t *testing.T, s *names, keys []int, vals []string) {
	t.Helper()
	if !slices.Equal(s.Keys(), keys) || !slices.Equal(s.Vals(), vals) || s.Len() != len(keys) {
		t.Fatalf("Keys %v, Vals %v, Len %d; not %v, %v", s.Keys(), s.Vals(), s.Len(), keys, vals)
	}
	for i, k := range keys {
		if v, ok := s.Get(k); v != vals[i] || !ok {
			t.Fatalf("Get(%d): %s, %t; not %s", k, v, ok, vals[i])
		}
	}
}

func sets(t *testing.T, s *names, k int, v string, want api.Errno) {
	t.Helper()
	if e := s.Set(k, v); e != want {
		t.Errorf("Set(%d): %d, not %d", k, e, want)
	}
}

func next(t *testing.T, s *names, k, wantKey int, want string, wantOk bool) {
	t.Helper()
	if n, v, ok := s.Next(k); n != wantKey || v != want || ok != wantOk {
		t.Errorf("Next(%d): %d, %q, %t; not %d, %q, %t", k, n, v, ok, wantKey, want, wantOk)
	}
}

// some is a shelf with room for more: 2 b, 4 d, 6 f, 8 h.
func some() *names {
	s := shelf.NewShelf[int, string](9)
	s.Set(6, "f")
	s.Set(2, "b")
	s.Set(8, "h")
	s.Set(4, "d")
	return s
}

func TestShelfExample(t *testing.T) {
	s := shelf.NewShelf[int, string](2)
	sets(t, s, 5, "a", api.OK)
	sets(t, s, 3, "b", api.OK)
	has(t, s, []int{3, 5}, []string{"b", "a"})
	next(t, s, 3, 5, "a", true)
}

// The sentence ahead of P2.1.
func TestNilShelf(t *testing.T) {
	var s *names
	sets(t, s, 1, "a", api.ErrNil)
	has(t, s, nil, nil)
	if v, ok := s.Get(1); v != "" || ok {
		t.Error("Get", v, ok)
	}
	if s.Del() != 0 || s.Del(1, 2) != 0 {
		t.Error("Del")
	}
	if l := s.Drop(func(int, string) bool { t.Error("asked"); return true }); len(l) != 0 {
		t.Error("Drop", l)
	}
	if l := s.Drop(nil); len(l) != 0 {
		t.Error("Drop", l)
	}
	next(t, s, 7, 7, "", false)
	next(t, s, math.MinInt, math.MinInt, "", false)
}

// P2.2.

func TestSetAndGet(t *testing.T) {
	s := some()
	has(t, s, []int{2, 4, 6, 8}, []string{"b", "d", "f", "h"})
	sets(t, s, 4, "x", api.OK)
	has(t, s, []int{2, 4, 6, 8}, []string{"b", "x", "f", "h"})
	sets(t, s, math.MaxInt, "most", api.OK)
	sets(t, s, math.MinInt, "least", api.OK)
	sets(t, s, 5, "e", api.OK)
	has(t, s, []int{math.MinInt, 2, 4, 5, 6, 8, math.MaxInt}, []string{"least", "b", "x", "e", "f", "h", "most"})
	for _, k := range []int{-1, 0, 1, 3, 7, 9} {
		if v, ok := s.Get(k); v != "" || ok {
			t.Errorf("Get(%d): %s, %t", k, v, ok)
		}
	}
}

func TestSetFull(t *testing.T) {
	s := shelf.NewShelf[int, string](2)
	sets(t, s, 7, "x", api.OK)
	sets(t, s, 2, "y", api.OK)
	for _, k := range []int{1, 3, 9} {
		sets(t, s, k, "z", api.ErrFull)
	}
	has(t, s, []int{2, 7}, []string{"y", "x"})
	sets(t, s, 7, "w", api.OK)
	sets(t, s, 2, "v", api.OK)
	has(t, s, []int{2, 7}, []string{"v", "w"})
	s.Del(2)
	sets(t, s, 9, "z", api.OK)
	sets(t, s, 2, "y", api.ErrFull)
	has(t, s, []int{7, 9}, []string{"w", "z"})
}

func TestShelfForNone(t *testing.T) {
	for _, most := range []int{0, -1, -1 << 40, math.MinInt} {
		s := shelf.NewShelf[int, string](most)
		sets(t, s, 1, "a", api.ErrFull)
		sets(t, s, 0, "", api.ErrFull)
		has(t, s, nil, nil)
		if _, ok := s.Get(1); ok || s.Del(1) != 0 {
			t.Error("a shelf for none has something")
		}
		next(t, s, 1, 1, "", false)
	}
}

func TestShelfForAsManyAsThereAre(t *testing.T) {
	s := shelf.NewShelf[int, string](math.MaxInt)
	sets(t, s, 1, "a", api.OK)
	has(t, s, []int{1}, []string{"a"})
}

func TestDel(t *testing.T) {
	for _, c := range []struct {
		l    []int
		n    int
		keys []int
		vals []string
	}{
		{nil, 0, []int{2, 4, 6, 8}, []string{"b", "d", "f", "h"}},
		{[]int{3, 0, 9, math.MinInt, math.MaxInt}, 0, []int{2, 4, 6, 8}, []string{"b", "d", "f", "h"}},
		{[]int{2}, 1, []int{4, 6, 8}, []string{"d", "f", "h"}},
		{[]int{8}, 1, []int{2, 4, 6}, []string{"b", "d", "f"}},
		{[]int{6, 3, 4}, 2, []int{2, 8}, []string{"b", "h"}},
		{[]int{4, 4, 4}, 1, []int{2, 6, 8}, []string{"b", "f", "h"}},
		{[]int{8, 6, 4, 2, 2}, 4, nil, nil},
	} {
		s, l := some(), slices.Clone(c.l)
		if n := s.Del(l...); n != c.n {
			t.Errorf("Del(%v): %d, not %d", c.l, n, c.n)
		}
		has(t, s, c.keys, c.vals)
		if !slices.Equal(l, c.l) {
			t.Error("Del changed its list", l)
		}
	}
}

func TestDrop(t *testing.T) {
	for _, c := range []struct {
		gone func(int, string) bool
		out  []string
		keys []int
		vals []string
	}{
		{func(int, string) bool { return false }, nil, []int{2, 4, 6, 8}, []string{"b", "d", "f", "h"}},
		{func(int, string) bool { return true }, []string{"b", "d", "f", "h"}, nil, nil},
		{func(k int, _ string) bool { return k > 4 }, []string{"f", "h"}, []int{2, 4}, []string{"b", "d"}},
		{func(k int, _ string) bool { return k < 4 }, []string{"b"}, []int{4, 6, 8}, []string{"d", "f", "h"}},
		{func(_ int, v string) bool { return v == "d" || v == "h" }, []string{"d", "h"}, []int{2, 6}, []string{"b", "f"}},
	} {
		s := some()
		if l := s.Drop(c.gone); !slices.Equal(l, c.out) {
			t.Errorf("Drop: %v, not %v", l, c.out)
		}
		has(t, s, c.keys, c.vals)
		sets(t, s, 5, "e", api.OK)
		if v, ok := s.Get(5); v != "e" || !ok {
			t.Error("Set behind Drop")
		}
	}
}

func TestDropAsksOneByOneInOrder(t *testing.T) {
	s := some()
	var keys []int
	var vals []string
	s.Drop(func(k int, v string) bool {
		keys, vals = append(keys, k), append(vals, v)
		return k%4 == 0
	})
	if !slices.Equal(keys, []int{2, 4, 6, 8}) || !slices.Equal(vals, []string{"b", "d", "f", "h"}) {
		t.Error("asked of", keys, vals)
	}
}

// Every second thing goes as it is asked for, whatever it is.
func TestDropAsksOfEachJustOnce(t *testing.T) {
	s := some()
	asked := 0
	l := s.Drop(func(int, string) bool { asked++; return asked%2 == 0 })
	if !slices.Equal(l, []string{"d", "h"}) || asked != 4 {
		t.Error("Drop", l, asked)
	}
	has(t, s, []int{2, 6}, []string{"b", "f"})
}

func TestDropMakesRoom(t *testing.T) {
	s := shelf.NewShelf[int, string](2)
	s.Set(1, "a")
	s.Set(2, "b")
	s.Drop(func(k int, _ string) bool { return k == 1 })
	sets(t, s, 3, "c", api.OK)
	sets(t, s, 4, "d", api.ErrFull)
	has(t, s, []int{2, 3}, []string{"b", "c"})
}

// Rule 1: no panic, whatever is handed in.
func TestDropOfNoFunction(t *testing.T) {
	s := some()
	if l := s.Drop(nil); len(l) != 0 {
		t.Error("Drop", l)
	}
	has(t, s, []int{2, 4, 6, 8}, []string{"b", "d", "f", "h"})
}

// P2.4 holds for what is set and taken out while Drop asks, too.
func TestDropOfAFunctionThatCallsTheShelf(t *testing.T) {
	s := some()
	l := s.Drop(func(k int, v string) bool {
		if n, ok := s.Get(k); ok && n != v {
			t.Errorf("Get(%d) while it is asked for: %s", k, n)
		}
		s.Set(100+k, v)
		s.Del(4, 8)
		return k == 2 || k == 4
	})
	if !slices.Equal(l, []string{"b", "d"}) {
		t.Error("Drop", l)
	}
	has(t, s, []int{6, 102, 104, 106, 108}, []string{"f", "b", "d", "f", "h"})
}

func TestNext(t *testing.T) {
	s := some()
	next(t, s, math.MinInt, 2, "b", true)
	next(t, s, 1, 2, "b", true)
	next(t, s, 2, 4, "d", true)
	next(t, s, 3, 4, "d", true)
	next(t, s, 7, 8, "h", true)
	next(t, s, 8, 8, "", false)
	next(t, s, 9, 9, "", false)
	next(t, s, math.MaxInt, math.MaxInt, "", false)
	next(t, shelf.NewShelf[int, string](3), 5, 5, "", false)
	has(t, s, []int{2, 4, 6, 8}, []string{"b", "d", "f", "h"})
}

func TestNextGoesThroughAll(t *testing.T) {
	s := some()
	var keys []int
	k, _, ok := s.Next(0)
	for ok && len(keys) < 9 {
		keys = append(keys, k)
		k, _, ok = s.Next(k)
	}
	if !slices.Equal(keys, s.Keys()) {
		t.Error("gone through", keys)
	}
}

// P2.4, and all calls together: a shelf held against a map.
func TestShelfAgainstMap(t *testing.T) {
	rnd := rand.New(rand.NewSource(4))
	for most := range 12 {
		s, want := shelf.NewShelf[int, string](most), map[int]string{}
		sorted := func() ([]int, []string) {
			var keys []int
			var vals []string
			for k := range want {
				keys = append(keys, k)
			}
			slices.Sort(keys)
			for _, k := range keys {
				vals = append(vals, want[k])
			}
			return keys, vals
		}
		for range 2000 {
			k, v := rnd.Intn(16)-8, string(rune('a'+rnd.Intn(26)))
			switch rnd.Intn(6) {
			case 0, 1, 2:
				if _, ok := want[k]; ok || len(want) < most {
					want[k] = v
					sets(t, s, k, v, api.OK)
				} else {
					sets(t, s, k, v, api.ErrFull)
				}
			case 3:
				n := len(want)
				delete(want, k)
				delete(want, k+3)
				if got := s.Del(k, k+3, k); got != n-len(want) {
					t.Fatalf("Del: %d, not %d", got, n-len(want))
				}
			case 4:
				keys, vals := sorted()
				var out []string
				for i, w := range vals {
					if w < v && (keys[i]+k)%3 == 0 {
						out = append(out, w)
						delete(want, keys[i])
					}
				}
				if l := s.Drop(func(n int, w string) bool { return w < v && (n+k)%3 == 0 }); !slices.Equal(l, out) {
					t.Fatalf("Drop: %v, not %v", l, out)
				}
			case 5:
				keys, vals := sorted()
				i := slices.IndexFunc(keys, func(n int) bool { return n > k })
				if i < 0 {
					next(t, s, k, k, "", false)
				} else {
					next(t, s, k, keys[i], vals[i], true)
				}
			}
			keys, vals := sorted()
			has(t, s, keys, vals)
		}
	}
}

// P2.4: in which order keys come plays no part.
func TestOrderOfSetsPlaysNoPart(t *testing.T) {
	a, b := shelf.NewShelf[int, string](9), shelf.NewShelf[int, string](9)
	for _, k := range []int{1, 2, 3, 4, 5} {
		a.Set(k, string(rune('a'+k)))
	}
	for _, k := range []int{4, 9, 2, 5, 1, 3} {
		b.Set(k, "?")
	}
	b.Del(9, 3)
	for _, k := range []int{5, 3, 1, 2, 4} {
		b.Set(k, string(rune('a'+k)))
	}
	has(t, b, a.Keys(), a.Vals())
}

// P2.5.
func TestShelfSharesNothing(t *testing.T) {
	s := some()
	keys, vals := s.Keys(), s.Vals()
	keys[0], vals[0] = 99, "?"
	_ = append(keys[:1], 98)
	_ = append(vals[:1], "!")
	has(t, s, []int{2, 4, 6, 8}, []string{"b", "d", "f", "h"})
	keys, vals = s.Keys(), s.Vals()
	out := s.Drop(func(k int, _ string) bool { return k < 6 })
	s.Set(1, "a")
	s.Set(7, "g")
	if !slices.Equal(keys, []int{2, 4, 6, 8}) || !slices.Equal(vals, []string{"b", "d", "f", "h"}) {
		t.Error("what was told is written into later", keys, vals)
	}
	out[0] = "?"
	_ = append(out, "!", "!")
	if !slices.Equal(vals, []string{"b", "d", "f", "h"}) {
		t.Error("what Drop told is shared with what Vals told", vals)
	}
	has(t, s, []int{1, 6, 7, 8}, []string{"a", "f", "g", "h"})
}

func ordered[K cmp.Ordered](t *testing.T, l ...K) {
	t.Helper()
	s := shelf.NewShelf[K, int](len(l))
	for i := len(l) - 1; i >= 0; i-- {
		if e := s.Set(l[i], i); e != api.OK {
			t.Errorf("Set(%v): %d", l[i], e)
		}
	}
	for i, k := range l {
		if v, ok := s.Get(k); v != i || !ok {
			t.Errorf("Get(%v): %d, %t", k, v, ok)
		}
		n, v, ok := s.Next(k)
		if i+1 < len(l) && (n != l[i+1] || v != i+1 || !ok) {
			t.Errorf("Next(%v): %v, %d, %t", k, n, v, ok)
		}
	}
	if s.Del(l...) != len(l) || s.Len() != 0 {
		t.Errorf("Del(%v)", l)
	}
}

func TestKeysOfAnyKind(t *testing.T) {
	ordered(t, "", "A", "a", "aa", "b", "\xff")
	ordered(t, uint64(0), 1, 1<<63, math.MaxUint64)
	ordered(t, int8(-128), -1, 0, 127)
	ordered(t, math.Inf(-1), -1.5, 0, 1e-300, math.Inf(1))
	ordered(t, math.NaN(), math.Inf(-1), 0)
}
