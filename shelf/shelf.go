// Package shelf is layer 2: rows that are bounded, and shelves by keys. See shared/doc/02-shelf.md.
package shelf

import (
	"cmp"
	"slices"

	"ostiary/api"
)

// Ring is a row of things, the first one first, so many at most.
type Ring[T any] struct {
	l    []T
	most int
}

// NewRing: one for so many. No room is laid out ahead, as most may be any number.
func NewRing[T any](most int) *Ring[T] { return &Ring[T]{most: max(most, 0)} }

func (r *Ring[T]) Put(l ...T) bool {
	if r == nil || len(l) > r.most-len(r.l) {
		return false
	}
	r.l = append(r.l, l...)
	return true
}

func (r *Ring[T]) Push(v T) (T, bool) {
	var first T
	if r == nil {
		return first, false
	}
	if r.most == 0 {
		return v, true
	}
	full := len(r.l) == r.most
	if full {
		first, _ = r.Take()
	}
	r.l = append(r.l, v)
	return first, full
}

func (r *Ring[T]) Take() (T, bool) { return r.Cut(0) }

// Cut moves those ahead, not those behind, as it is mostly the first one that is taken out.
func (r *Ring[T]) Cut(i int) (T, bool) {
	v, ok := r.At(i)
	if !ok {
		return v, false
	}
	copy(r.l[1:i+1], r.l[:i])
	clear(r.l[:1]) // what is taken out is not held on to
	r.l = r.l[1:]
	return v, true
}

func (r *Ring[T]) At(i int) (T, bool) {
	if i < 0 || i >= r.Len() {
		var none T
		return none, false
	}
	return r.l[i], true
}

func (r *Ring[T]) Len() int {
	if r == nil {
		return 0
	}
	return len(r.l)
}

func (r *Ring[T]) All() []T {
	if r == nil {
		return nil
	}
	return slices.Clone(r.l)
}

// Shelf is things by keys, in the keys' order, so many at most.
type Shelf[K cmp.Ordered, V any] struct {
	keys []K // rising, each once, so that no order has to be made when they are told
	vals []V // each at its key's place
	most int
}

// NewShelf: one for so many.
func NewShelf[K cmp.Ordered, V any](most int) *Shelf[K, V] { return &Shelf[K, V]{most: most} }

func (s *Shelf[K, V]) Set(k K, v V) api.Errno {
	if s == nil {
		return api.ErrNil
	}
	i, ok := s.find(k)
	if ok {
		s.vals[i] = v
		return api.OK
	}
	if len(s.keys) >= s.most {
		return api.ErrFull
	}
	s.keys = slices.Insert(s.keys, i, k)
	s.vals = slices.Insert(s.vals, i, v)
	return api.OK
}

func (s *Shelf[K, V]) Get(k K) (V, bool) {
	i, ok := s.find(k)
	if !ok {
		var none V
		return none, false
	}
	return s.vals[i], true
}

func (s *Shelf[K, V]) Del(l ...K) int {
	n := 0
	for _, k := range l {
		if i, ok := s.find(k); ok {
			s.keys = slices.Delete(s.keys, i, i+1)
			s.vals = slices.Delete(s.vals, i, i+1)
			n++
		}
	}
	return n
}

func (s *Shelf[K, V]) Keys() []K {
	if s == nil {
		return nil
	}
	return slices.Clone(s.keys)
}

func (s *Shelf[K, V]) Vals() []V {
	if s == nil {
		return nil
	}
	return slices.Clone(s.vals)
}

func (s *Shelf[K, V]) Len() int {
	if s == nil {
		return 0
	}
	return len(s.keys)
}

// Drop asks over copies: gone may call this very shelf. A nil gone tells true of nothing.
func (s *Shelf[K, V]) Drop(gone func(K, V) bool) []V {
	if s == nil || gone == nil {
		return nil
	}
	var keys []K
	var out []V
	vals := s.Vals()
	for i, k := range s.Keys() {
		if gone(k, vals[i]) {
			keys = append(keys, k)
			out = append(out, vals[i])
		}
	}
	s.sweep(keys)
	return out
}

func (s *Shelf[K, V]) Next(k K) (K, V, bool) {
	i, ok := s.find(k)
	if ok {
		i++
	}
	if i >= s.Len() {
		var none V
		return k, none, false
	}
	return s.keys[i], s.vals[i], true
}

// find tells where a key stands, or would stand, and whether it is there.
func (s *Shelf[K, V]) find(k K) (int, bool) {
	if s == nil {
		return 0, false
	}
	return slices.BinarySearch(s.keys, k)
}

// sweep takes out many keys, which rise, in one go: with Del each of them would move all behind it.
func (s *Shelf[K, V]) sweep(l []K) {
	n := 0
	for i, k := range s.keys {
		if _, ok := slices.BinarySearch(l, k); !ok {
			s.keys[n], s.vals[n] = k, s.vals[i]
			n++
		}
	}
	clear(s.keys[n:]) // what is taken out is not held on to
	clear(s.vals[n:])
	s.keys, s.vals = s.keys[:n], s.vals[:n]
}
