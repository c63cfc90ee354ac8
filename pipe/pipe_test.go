package pipe_test

import (
	"math"
	"slices"
	"testing"

	"ostiary/pipe"
)

// tally is what Counts tells.
type tally struct{ sent, came, doubled, lost int }

func tallyOf[T any](p *pipe.Pipe[T]) tally {
	sent, came, doubled, lost := p.Counts()
	return tally{sent, came, doubled, lost}
}

// beyond are numbers that no thing has when there are n of them.
func beyond(n int) []int {
	return []int{math.MinInt, -1 << 32, -n - 1, -1, n, n + 1, 4096, 1 << 32, math.MaxInt}
}

// has fails unless just these things are on their way, in this order, and that has become of all.
func has(t *testing.T, p *pipe.Pipe[int], counts tally, want ...int) {
	t.Helper()
	if got := p.All(); !slices.Equal(got, want) || p.Len() != len(want) {
		t.Errorf("All %v, Len %d; not %v", got, p.Len(), want)
	}
	for i, v := range want {
		if got, ok := p.At(i); got != v || !ok {
			t.Errorf("At(%d): %d, %t; not %d", i, got, ok, v)
		}
	}
	for _, i := range beyond(len(want)) {
		if got, ok := p.At(i); got != 0 || ok {
			t.Errorf("At(%d): %d, %t", i, got, ok)
		}
	}
	got := tallyOf(p)
	if got != counts {
		t.Errorf("Counts: %+v, not %+v", got, counts)
	}
	if got.sent+got.doubled != got.came+got.lost+p.Len() { // P20.3
		t.Errorf("%+v, and %d are on their way", got, p.Len())
	}
}

func sends(t *testing.T, p *pipe.Pipe[int], want int, l ...int) {
	t.Helper()
	if got := p.Send(l...); got != want {
		t.Errorf("Send of %d: %d, not %d", len(l), got, want)
	}
}

func takes(t *testing.T, p *pipe.Pipe[int], i, want int) {
	t.Helper()
	if got, ok := p.Take(i); got != want || !ok {
		t.Errorf("Take(%d): %d, %t; not %d", i, got, ok, want)
	}
}

func takesNothing(t *testing.T, p *pipe.Pipe[int], i int) {
	t.Helper()
	if got, ok := p.Take(i); got != 0 || ok {
		t.Errorf("Take(%d): %d, %t", i, got, ok)
	}
}

func doubles(t *testing.T, p *pipe.Pipe[int], i int, want bool) {
	t.Helper()
	if got := p.Twice(i); got != want {
		t.Errorf("Twice(%d): %t", i, got)
	}
}

func loses(t *testing.T, p *pipe.Pipe[int], want int, l ...int) {
	t.Helper()
	if got := p.Lose(l...); got != want {
		t.Errorf("Lose(%v): %d, not %d", l, got, want)
	}
}

// holding is a pipe with some things on their way.
func holding(most int, l ...int) *pipe.Pipe[int] {
	p := pipe.New[int](most)
	p.Send(l...)
	return p
}

// counted is so many things, each another one.
func counted(n int) []int {
	l := make([]int, n)
	for i := range l {
		l[i] = i + 1
	}
	return l
}

func TestExample(t *testing.T) {
	p := pipe.New[int](2)
	sends(t, p, 2, 5, 6, 7)
	doubles(t, p, 0, false)
	loses(t, p, 1, 0)
	takes(t, p, 0, 6)
	has(t, p, tally{3, 1, 0, 2})
}

// Of a nil pipe.
func TestNilPipe(t *testing.T) {
	var p *pipe.Pipe[int]
	sends(t, p, 0)
	sends(t, p, 0, 1, 2)
	for _, i := range append(beyond(0), 0) {
		takesNothing(t, p, i)
		doubles(t, p, i, false)
		loses(t, p, 0, i, 0)
	}
	loses(t, p, 0)
	has(t, p, tally{})
}

// A pipe is for so many things at most as was said, from 1 to 4096.
func TestMost(t *testing.T) {
	for most, room := range map[int]int{
		math.MinInt: 1, -1 << 40: 1, -1: 1, 0: 1, 1: 1, 2: 2, 3: 3, 17: 17, 256: 256, 4095: 4095, 4096: 4096, 4097: 4096, 8192: 4096, 1 << 20: 4096, 1<<32 + 1: 4096, math.MaxInt: 4096,
	} {
		p, l := pipe.New[int](most), counted(room+3)
		has(t, p, tally{})
		sends(t, p, room, l...) // the room is for all together
		has(t, p, tally{sent: room + 3, lost: 3}, l[:room]...)
		doubles(t, p, 0, false)
		p = pipe.New[int](most)
		for i, v := range l { // or one by one
			sends(t, p, min(max(room-i, 0), 1), v)
		}
		has(t, p, tally{sent: room + 3, lost: 3}, l[:room]...)
	}
}

// P20.1, P20.2.

func TestSend(t *testing.T) {
	p := pipe.New[int](5)
	sends(t, p, 0)
	has(t, p, tally{})
	sends(t, p, 1, 7)
	sends(t, p, 2, 3, 7)
	has(t, p, tally{sent: 3}, 7, 3, 7)
	sends(t, p, 2, 8, 9, 10) // some have room
	has(t, p, tally{sent: 6, lost: 1}, 7, 3, 7, 8, 9)
	sends(t, p, 0, 11)
	sends(t, p, 0, 12, 13)
	sends(t, p, 0)
	has(t, p, tally{sent: 9, lost: 4}, 7, 3, 7, 8, 9)
	takes(t, p, 1, 3)
	sends(t, p, 1, 14, 15)
	has(t, p, tally{sent: 11, came: 1, lost: 5}, 7, 7, 8, 9, 14)
	loses(t, p, 2, 0, 0)
	sends(t, p, 2, 0, 16, 17) // nought is a thing, too
	has(t, p, tally{sent: 14, came: 1, lost: 8}, 8, 9, 14, 0, 16)
}

func TestTake(t *testing.T) {
	all := counted(5)
	for i, v := range all {
		p := holding(5, all...)
		takes(t, p, i, v)
		left := slices.Delete(slices.Clone(all), i, i+1)
		has(t, p, tally{sent: 5, came: 1}, left...)
		sends(t, p, 1, 9, 10) // there is room for one more
		has(t, p, tally{sent: 7, came: 1, lost: 1}, append(left, 9)...)
	}
	p := holding(5, all...)
	for n, i := range []int{3, 0, 2, 1, 0} {
		v, _ := p.At(i)
		takes(t, p, i, v)
		if got := tallyOf(p); got != (tally{sent: 5, came: n + 1}) {
			t.Errorf("%+v", got)
		}
	}
	has(t, p, tally{sent: 5, came: 5})
}

func TestTakeNothing(t *testing.T) {
	for _, l := range [][]int{nil, {4}, {4, 5, 6}} {
		p := holding(5, l...)
		for _, i := range beyond(len(l)) {
			takesNothing(t, p, i)
		}
		has(t, p, tally{sent: len(l)}, l...)
	}
}

func TestTwice(t *testing.T) {
	all := counted(4)
	for i, v := range all {
		p := holding(6, all...)
		doubles(t, p, i, true)
		want := append(slices.Clone(all), v)
		has(t, p, tally{sent: 4, doubled: 1}, want...)
		doubles(t, p, 4, true) // the doubled one, too
		want = append(want, v)
		has(t, p, tally{sent: 4, doubled: 2}, want...)
		doubles(t, p, i, false)
		doubles(t, p, 5, false)
		has(t, p, tally{sent: 4, doubled: 2}, want...) // what is not doubled is not lost
		takes(t, p, i, v)
		doubles(t, p, 4, true)
		has(t, p, tally{sent: 4, came: 1, doubled: 3}, append(slices.Delete(want, i, i+1), v)...)
	}
}

func TestTwiceOfNothing(t *testing.T) {
	for _, l := range [][]int{nil, {4}, {4, 5, 6}} {
		for _, most := range []int{4, len(l)} {
			p := holding(most, l...)
			for _, i := range beyond(len(l)) {
				doubles(t, p, i, false)
			}
			has(t, p, tally{sent: len(l)}, l...)
		}
	}
}

func TestLose(t *testing.T) {
	for _, c := range []struct {
		numbers []int
		n       int
		left    []int
	}{
		{nil, 0, []int{1, 2, 3, 4, 5}},
		{[]int{0}, 1, []int{2, 3, 4, 5}},
		{[]int{2}, 1, []int{1, 2, 4, 5}},
		{[]int{4}, 1, []int{1, 2, 3, 4}},
		{[]int{0, 0, 0}, 3, []int{4, 5}}, // each by its number at that time
		{[]int{0, 1}, 2, []int{2, 4, 5}},
		{[]int{1, 0}, 2, []int{3, 4, 5}},
		{[]int{4, 4}, 1, []int{1, 2, 3, 4}},
		{[]int{4, 3, 2, 1, 0}, 5, nil},
		{[]int{0, 1, 2, 3, 4}, 3, []int{2, 4}},
		{[]int{0, 0, 0, 0, 0, 0, 0}, 5, nil},
		{[]int{-1, 5, 1, math.MinInt, 3, 4, math.MaxInt}, 2, []int{1, 3, 4}}, // those that there aren't are passed
		{[]int{5, 6, -1}, 0, []int{1, 2, 3, 4, 5}},
	} {
		p := holding(5, counted(5)...)
		loses(t, p, c.n, c.numbers...)
		has(t, p, tally{sent: 5, lost: c.n}, c.left...)
		sends(t, p, c.n, slices.Repeat([]int{8}, c.n)...)
		has(t, p, tally{sent: 5 + c.n, lost: c.n}, append(c.left, slices.Repeat([]int{8}, c.n)...)...)
	}
}

func TestLoseNothing(t *testing.T) {
	for _, l := range [][]int{nil, {4}, {4, 5, 6}} {
		p := holding(5, l...)
		loses(t, p, 0, beyond(len(l))...)
		loses(t, p, 0)
		has(t, p, tally{sent: len(l)}, l...)
	}
}

// What is asked stays, however often.
func TestAskedStays(t *testing.T) {
	p := holding(3, 1, 2, 3, 4)
	for range 5 {
		has(t, p, tally{sent: 4, lost: 1}, 1, 2, 3)
	}
}

func TestCounts(t *testing.T) {
	p := pipe.New[int](4)
	p.Send(1, 2, 3, 4, 5, 6) // two are lost
	p.Take(1)                // 1 3 4
	p.Twice(2)               // 1 3 4 4
	p.Twice(0)               // no room
	p.Lose(0, 1, 9)          // 3 4
	p.Take(5)                // nothing
	p.Twice(1)               // 3 4 4
	p.Send(7, 8)             // 3 4 4 7
	has(t, p, tally{sent: 8, came: 1, doubled: 2, lost: 5}, 3, 4, 4, 7)
	for p.Len() > 0 {
		p.Take(p.Len() - 1)
	}
	has(t, p, tally{sent: 8, came: 5, doubled: 2, lost: 5})
}

// Much goes through a small pipe.
func TestLong(t *testing.T) {
	p := pipe.New[int](3)
	for i := range 5000 {
		sends(t, p, 2, i, -i)
		takes(t, p, 1, -i)
		takes(t, p, 0, i)
	}
	has(t, p, tally{sent: 10000, came: 10000})
}

// A pipe is of any kind of things.
func TestOfAnyKind(t *testing.T) {
	type thing struct {
		name string
		p    *int
	}
	n := 5
	p := pipe.New[thing](2)
	if p.Send(thing{"a", &n}, thing{name: "b"}, thing{}) != 2 || !slices.Equal(p.All(), []thing{{"a", &n}, {name: "b"}}) {
		t.Error(p.All())
	}
	if v, ok := p.Take(0); v != (thing{"a", &n}) || !ok {
		t.Error(v, ok)
	}
	if !p.Twice(0) || p.Lose(0) != 1 {
		t.Error("Twice, Lose")
	}
	if v, ok := p.At(0); v.name != "b" || !ok {
		t.Error(v, ok)
	}
	for _, i := range beyond(1) {
		if v, ok := p.Take(i); v != (thing{}) || ok {
			t.Error(i, v, ok)
		}
	}
	if got := tallyOf(p); got != (tally{3, 1, 1, 2}) {
		t.Error(got)
	}
	texts := pipe.New[[]byte](0)
	if texts.Send(nil) != 1 || texts.Len() != 1 { // a thing that is nil is one
		t.Error(texts.Len())
	}
	if v, ok := texts.Take(0); v != nil || !ok {
		t.Error(v, ok)
	}
	var none *pipe.Pipe[[]byte]
	if none.Send([]byte("a")) != 0 || none.Len() != 0 || tallyOf(none) != (tally{}) {
		t.Error("a nil pipe has something")
	}
}

// The rules that hold everywhere.

func TestNoListIsShared(t *testing.T) {
	l := []int{1, 2, 3}
	p := holding(5, l...)
	l[0] = 99
	a, b := p.All(), p.All()
	for i := range a[:cap(a)] {
		a[:cap(a)][i] = 98
	}
	if !slices.Equal(b, []int{1, 2, 3}) {
		t.Error(b)
	}
	has(t, p, tally{sent: 3}, 1, 2, 3)
	p.Twice(0)
	p.Take(0)
	p.Send(7)
	p.Lose(0)
	if !slices.Equal(b, []int{1, 2, 3}) || !slices.Equal(l, []int{99, 2, 3}) {
		t.Error(b, l)
	}
	numbers := []int{0, 0}
	loses(t, p, 2, numbers...)
	if !slices.Equal(numbers, []int{0, 0}) {
		t.Error(numbers)
	}
	has(t, p, tally{sent: 4, came: 1, doubled: 1, lost: 3}, 7)
}

func TestTwoPipesAreTwo(t *testing.T) {
	x, y := pipe.New[int](2), pipe.New[int](2)
	sends(t, x, 2, 1, 2, 3)
	has(t, y, tally{})
	sends(t, y, 1, 9)
	takes(t, x, 0, 1)
	has(t, x, tally{sent: 3, came: 1, lost: 1}, 2)
	has(t, y, tally{sent: 1}, 9)
}

// P1: calls end at all arguments, also of a pipe that New did not make.
func TestAnyArguments(t *testing.T) {
	for _, p := range []*pipe.Pipe[int]{nil, {}, pipe.New[int](math.MinInt), pipe.New[int](math.MaxInt)} {
		for range 3 {
			p.Send()
			p.Send(counted(9)...)
			for _, i := range append(beyond(p.Len()), 0, 1) {
				p.At(i)
				p.Twice(i)
				p.Take(i)
				p.Lose(i, i, 0, -i)
			}
			p.Lose()
			p.Lose(counted(9)...)
			p.Counts()
			p.All()
			p.Len()
		}
	}
}
