package hub_test

import (
	"math"
	"math/rand"
	"slices"
	"testing"

	"ostiary/hub"
)

// none are numbers that no tap has, however many there are.
var none = []int{math.MinInt, -1 << 32, -16, -1, hub.Most, hub.Most + 1, 1 << 32, math.MaxInt}

// withTaps is a hub with so many taps.
func withTaps(t *testing.T, room, taps int) *hub.Hub[int] {
	t.Helper()
	h := hub.New[int](room)
	for want := range taps {
		if n, ok := h.Tap(); n != want || !ok {
			t.Fatalf("Tap: %d, %t; not %d", n, ok, want)
		}
	}
	return h
}

func posts(t *testing.T, h *hub.Hub[int], want int, l ...int) {
	t.Helper()
	if n := h.Post(l...); n != want {
		t.Errorf("Post(%v): %d, not %d", l, n, want)
	}
}

// shows fails unless the tap has so many things and missed so many.
func shows(t *testing.T, h *hub.Hub[int], tap, has, missed int) {
	t.Helper()
	if h.Len(tap) != has || h.Missed(tap) != missed {
		t.Errorf("tap %d: Len %d, Missed %d; not %d, %d", tap, h.Len(tap), h.Missed(tap), has, missed)
	}
}

// takes fails unless just these things come out of the tap, in order, and nothing behind them.
func takes(t *testing.T, h *hub.Hub[int], tap int, want ...int) {
	t.Helper()
	for i, w := range want {
		if v, ok := h.Take(tap); v != w || !ok {
			t.Fatalf("Take(%d), number %d: %d, %t; not %d", tap, i, v, ok, w)
		}
	}
	for range 2 {
		if v, ok := h.Take(tap); v != 0 || ok {
			t.Fatalf("Take(%d): %d, %t; there is nothing", tap, v, ok)
		}
	}
}

func first(t *testing.T, h *hub.Hub[int], want, wantTap int, wantOk bool, taps ...int) {
	t.Helper()
	if v, n, ok := h.First(taps...); v != want || n != wantTap || ok != wantOk {
		t.Errorf("First(%v): %d, %d, %t; not %d, %d, %t", taps, v, n, ok, want, wantTap, wantOk)
	}
}

func shuts(t *testing.T, h *hub.Hub[int], tap int, want bool) {
	t.Helper()
	if h.Shut(tap) != want {
		t.Errorf("Shut(%d): not %t", tap, want)
	}
}

func upTo(n int) []int {
	l := make([]int, n)
	for i := range l {
		l[i] = i + 1
	}
	return l
}

func TestExample(t *testing.T) {
	h := withTaps(t, 2, 1)
	posts(t, h, 2, 5, 6, 7)
	if v, ok := h.Take(0); v != 5 || !ok {
		t.Error("Take", v, ok)
	}
	shows(t, h, 0, 1, 1)
}

// The sentence ahead of P4.1.

func TestNilHub(t *testing.T) {
	var h *hub.Hub[int]
	if n, ok := h.Tap(); n != 0 || ok {
		t.Error("Tap", n, ok)
	}
	posts(t, h, 0)
	posts(t, h, 0, 1, 2)
	for _, tap := range append([]int{0, 1}, none...) {
		takes(t, h, tap)
		first(t, h, 0, 0, false, tap)
		shuts(t, h, tap, false)
		shows(t, h, tap, 0, 0)
	}
	first(t, h, 0, 0, false)
	first(t, h, 0, 0, false, 0, 0, 1)
}

func TestTapsThatThereAreNot(t *testing.T) {
	for taps := range hub.Most + 1 {
		h := withTaps(t, 2, taps)
		posts(t, h, 2*taps, 1, 2, 3)
		for _, tap := range append([]int{taps}, none...) {
			takes(t, h, tap)
			first(t, h, 0, 0, false, tap)
			shuts(t, h, tap, false)
			shows(t, h, tap, 0, 0)
		}
		first(t, h, 0, 0, false, none...)
		for tap := range taps {
			shows(t, h, tap, 2, 1)
			takes(t, h, tap, 1, 2)
		}
	}
}

// P4.1.

func TestTaps(t *testing.T) {
	h := withTaps(t, 1, hub.Most)
	for range 3 {
		if n, ok := h.Tap(); n != 0 || ok {
			t.Errorf("one tap more: %d, %t", n, ok)
		}
	}
	posts(t, h, hub.Most, 7)
	for tap := range hub.Most {
		shows(t, h, tap, 1, 0)
	}
}

// A tap that is shut is one of the 16 still.
func TestShutTapsMakeNoRoom(t *testing.T) {
	h := withTaps(t, 1, 3)
	shuts(t, h, 1, true)
	for want := 3; want < hub.Most; want++ {
		if n, ok := h.Tap(); n != want || !ok {
			t.Fatalf("Tap: %d, %t; not %d", n, ok, want)
		}
	}
	for tap := range hub.Most {
		h.Shut(tap)
	}
	if n, ok := h.Tap(); n != 0 || ok {
		t.Errorf("one tap more: %d, %t", n, ok)
	}
}

func TestRoom(t *testing.T) {
	for _, c := range []struct{ told, room int }{
		{math.MinInt, 1}, {-1 << 40, 1}, {-1, 1}, {0, 1}, {1, 1}, {2, 2}, {3, 3}, {1023, 1023}, {1024, 1024},
		{1025, 1024}, {4096, 1024}, {1 << 40, 1024}, {math.MaxInt, 1024},
	} {
		h := withTaps(t, c.told, 2)
		l := upTo(c.room + 3)
		posts(t, h, 2*c.room, l...)
		for tap := range 2 {
			shows(t, h, tap, c.room, 3)
			takes(t, h, tap, l[:c.room]...)
		}
	}
}

func TestPostToNobody(t *testing.T) {
	h := withTaps(t, 2, 0)
	posts(t, h, 0, 1, 2, 3)
	h.Tap()
	shows(t, h, 0, 0, 0)
	takes(t, h, 0)
}

func TestPostOfNothing(t *testing.T) {
	h := withTaps(t, 1, 2)
	posts(t, h, 0)
	posts(t, h, 0, []int{}...)
	posts(t, h, 2, 1)
	posts(t, h, 0)
	shows(t, h, 0, 1, 0)
}

// A nought is a thing as any other one.
func TestPostOfNought(t *testing.T) {
	h := withTaps(t, 2, 1)
	posts(t, h, 2, 0, 0)
	if v, ok := h.Take(0); v != 0 || !ok {
		t.Error("Take", v, ok)
	}
	first(t, h, 0, 0, true, 0)
	takes(t, h, 0)
}

// What is told to one of two is counted once, to both twice.
func TestPostCountsEachTap(t *testing.T) {
	h := withTaps(t, 3, 2)
	posts(t, h, 4, 1, 2)
	takes(t, h, 0, 1, 2)
	posts(t, h, 4, 3, 4, 5)
	shows(t, h, 0, 3, 0)
	shows(t, h, 1, 3, 2)
	posts(t, h, 0, 6)
	takes(t, h, 0, 3, 4, 5)
	takes(t, h, 1, 1, 2, 3)
	shows(t, h, 0, 0, 1)
	shows(t, h, 1, 0, 3)
	posts(t, h, 2, 7)
	takes(t, h, 0, 7)
	takes(t, h, 1, 7)
}

func TestTakeMakesRoom(t *testing.T) {
	h := withTaps(t, 2, 1)
	posts(t, h, 2, 1, 2, 3)
	if v, ok := h.Take(0); v != 1 || !ok {
		t.Error("Take", v, ok)
	}
	posts(t, h, 1, 4, 5)
	shows(t, h, 0, 2, 2)
	takes(t, h, 0, 2, 4)
}

func TestFirst(t *testing.T) {
	h := withTaps(t, 4, 3)
	shuts(t, h, 1, true)
	posts(t, h, 4, 1, 2)
	first(t, h, 0, 0, false)
	first(t, h, 0, 0, false, 1)
	first(t, h, 1, 2, true, 1, 2, 0)
	first(t, h, 1, 0, true, 0, 2)
	first(t, h, 2, 0, true, 1, 0, 1, 2)
	first(t, h, 2, 2, true, 0, 1, 2)
	first(t, h, 0, 0, false, 0, 1, 2)
}

func TestFirstOfTheSameTapTwice(t *testing.T) {
	h := withTaps(t, 4, 2)
	posts(t, h, 6, 1, 2, 3)
	first(t, h, 1, 1, true, 1, 1)
	first(t, h, 2, 1, true, 1, 1, 0)
	shows(t, h, 1, 1, 0)
	first(t, h, 3, 1, true, 1, 1)
	first(t, h, 0, 0, false, 1, 1)
	takes(t, h, 0, 1, 2, 3)
}

func TestFirstPassesTapsThatThereAreNot(t *testing.T) {
	h := withTaps(t, 4, 2)
	posts(t, h, 2, 9)
	first(t, h, 9, 1, true, append(slices.Clone(none), 1, 0)...)
	first(t, h, 9, 0, true, -1, 2, 0)
	first(t, h, 0, 0, false, -1, 2, 0)
}

func TestShut(t *testing.T) {
	h := withTaps(t, 3, 2)
	posts(t, h, 6, 1, 2, 3)
	posts(t, h, 0, 4)
	shuts(t, h, 0, true)
	shuts(t, h, 0, false)
	posts(t, h, 0, 5)
	shows(t, h, 0, 3, 1)
	shows(t, h, 1, 3, 2)
	takes(t, h, 0, 1, 2, 3)
	shows(t, h, 0, 0, 1)
	takes(t, h, 1, 1, 2, 3)
	posts(t, h, 1, 6)
	shows(t, h, 0, 0, 1)
	takes(t, h, 0)
	takes(t, h, 1, 6)
	shuts(t, h, 0, false)
	shuts(t, h, 1, true)
	posts(t, h, 0, 7)
	shows(t, h, 1, 0, 2)
}

func TestFirstOfShutTaps(t *testing.T) {
	h := withTaps(t, 2, 2)
	posts(t, h, 2, 8)
	shuts(t, h, 0, true)
	shuts(t, h, 1, true)
	first(t, h, 8, 0, true, 0, 1)
	first(t, h, 8, 1, true, 0, 1)
	first(t, h, 0, 0, false, 0, 1)
}

// A tap is told only what is posted from when on there is one.
func TestALaterTap(t *testing.T) {
	h := withTaps(t, 2, 1)
	posts(t, h, 2, 1, 2, 3)
	if n, ok := h.Tap(); n != 1 || !ok {
		t.Error("Tap", n, ok)
	}
	shows(t, h, 1, 0, 0)
	posts(t, h, 1, 4)
	shows(t, h, 0, 2, 2)
	takes(t, h, 1, 4)
	takes(t, h, 0, 1, 2)
}

// P4.2.

func TestNobodyWaits(t *testing.T) {
	const room = 4
	h := withTaps(t, room, hub.Most)
	lazy, shut := 5, 6
	shuts(t, h, shut, true)
	for v := range 1000 {
		want := hub.Most - 1
		if v >= room {
			want--
		}
		posts(t, h, want, v)
		for tap := range hub.Most {
			if tap != lazy && tap != shut {
				takes(t, h, tap, v)
				shows(t, h, tap, 0, 0)
			}
		}
	}
	shows(t, h, lazy, room, 1000-room)
	shows(t, h, shut, 0, 0)
	takes(t, h, lazy, 0, 1, 2, 3)
}

// P4.3, and all calls together: a hub held against lists.

type row struct {
	l      []int
	open   bool
	missed int
	told   int
	posted int // while it was open
}

func (r *row) take() (int, bool) {
	if len(r.l) == 0 {
		return 0, false
	}
	v := r.l[0]
	r.l = r.l[1:]
	return v, true
}

func (r *row) post(v, room int) int {
	if !r.open {
		return 0
	}
	r.posted++
	if len(r.l) == room {
		r.missed++
		return 0
	}
	r.l = append(r.l, v)
	r.told++
	return 1
}

// model is as many rows as there are taps.
type model struct {
	rows []*row
	room int
}

func (m *model) at(tap int) *row {
	if tap < 0 || tap >= len(m.rows) {
		return &row{}
	}
	return m.rows[tap]
}

func (m *model) post(l ...int) int {
	n := 0
	for _, v := range l {
		for _, r := range m.rows {
			n += r.post(v, m.room)
		}
	}
	return n
}

func (m *model) first(taps ...int) (int, int, bool) {
	for _, tap := range taps {
		if v, ok := m.at(tap).take(); ok {
			return v, tap, true
		}
	}
	return 0, 0, false
}

func (m *model) step(t *testing.T, rnd *rand.Rand, h *hub.Hub[int], v int) {
	t.Helper()
	tap := rnd.Intn(20) - 2
	switch rnd.Intn(20) {
	case 0:
		n, ok := h.Tap()
		if want := len(m.rows) < hub.Most; ok != want || want && n != len(m.rows) || !want && n != 0 {
			t.Fatalf("Tap: %d, %t", n, ok)
		} else if want {
			m.rows = append(m.rows, &row{open: true})
		}
	case 1:
		shuts(t, h, tap, m.at(tap).open)
		m.at(tap).open = false
	case 2, 3, 4, 5, 6, 7, 8:
		l := []int{v, v + 1, v + 2, v + 3}[:rnd.Intn(5)]
		posts(t, h, m.post(l...), l...)
	case 9, 10, 11:
		taps := []int{tap, rnd.Intn(20) - 2, rnd.Intn(20) - 2}[:rnd.Intn(4)]
		w, n, ok := m.first(taps...)
		first(t, h, w, n, ok, taps...)
	default:
		w, wantOk := m.at(tap).take()
		if got, ok := h.Take(tap); got != w || ok != wantOk {
			t.Fatalf("Take(%d): %d, %t; not %d, %t", tap, got, ok, w, wantOk)
		}
	}
}

func TestHubAgainstLists(t *testing.T) {
	for seed := range 40 {
		rnd := rand.New(rand.NewSource(int64(seed)))
		room := seed%8 + 1
		h, m := hub.New[int](room), &model{room: room}
		for v := range 2000 {
			m.step(t, rnd, h, 10*v)
			for tap := -2; tap < 18; tap++ {
				shows(t, h, tap, len(m.at(tap).l), m.at(tap).missed)
			}
			if t.Failed() {
				t.FailNow()
			}
		}
		for tap, r := range m.rows {
			if r.told+h.Missed(tap) != r.posted {
				t.Errorf("tap %d: %d told, %d missed of %d", tap, r.told, h.Missed(tap), r.posted)
			}
			takes(t, h, tap, r.l...)
		}
	}
}

// Two hubs with the same calls answer the same: there is no chance, and no schedule.
func TestTheSameCallsHaveTheSameAnswers(t *testing.T) {
	a, b := withTaps(t, 3, 4), withTaps(t, 3, 4)
	rnd := rand.New(rand.NewSource(9))
	for v := range 3000 {
		i, k := rnd.Intn(4), rnd.Intn(4)
		if a.Post(v, -v) != b.Post(v, -v) {
			t.Fatal("Post")
		}
		va, na, _ := a.First(i, k)
		first(t, b, va, na, true, i, k)
		takes(t, a, k, drain(b, k)...)
	}
}

func drain(h *hub.Hub[int], tap int) []int {
	var l []int
	for v, ok := h.Take(tap); ok; v, ok = h.Take(tap) {
		l = append(l, v)
	}
	return l
}

// Rules 4 and 5 of those that hold everywhere.
func TestNoListIsChangedOrKept(t *testing.T) {
	h := withTaps(t, 4, 2)
	l, taps := []int{1, 2, 3}, []int{1, 0}
	posts(t, h, 6, l...)
	if !slices.Equal(l, []int{1, 2, 3}) {
		t.Error("Post changed its list", l)
	}
	l[0], l[1], l[2] = 7, 8, 9
	first(t, h, 1, 1, true, taps...)
	if !slices.Equal(taps, []int{1, 0}) {
		t.Error("First changed its list", taps)
	}
	takes(t, h, 0, 1, 2, 3)
	takes(t, h, 1, 2, 3)
}

func TestHubsShareNothing(t *testing.T) {
	a, b := withTaps(t, 2, 1), withTaps(t, 2, 2)
	posts(t, a, 1, 1)
	shows(t, b, 0, 0, 0)
	posts(t, b, 2, 2)
	takes(t, a, 0, 1)
	shuts(t, a, 0, true)
	takes(t, b, 0, 2)
	shuts(t, b, 0, true)
}

func hears[T comparable](t *testing.T, l ...T) {
	t.Helper()
	h := hub.New[T](len(l))
	tap, _ := h.Tap()
	if n := h.Post(l...); n != len(l) {
		t.Errorf("Post: %d, not %d", n, len(l))
	}
	for _, want := range l {
		if v, n, ok := h.First(tap); v != want || n != tap || !ok {
			t.Errorf("First: %v, %t; not %v", v, ok, want)
		}
	}
	var none T
	if v, ok := h.Take(tap); v != none || ok {
		t.Errorf("Take: %v, %t; there is nothing", v, ok)
	}
}

func TestThingsOfAnyKind(t *testing.T) {
	x, y := 1, 1
	hears(t, "a", "", "b")
	hears(t, struct{}{}, struct{}{})
	hears(t, &x, nil, &y)
	hears(t, [3]uint64{1, 2, 3}, [3]uint64{})
	hears[any](t, 1, "b", nil, 2.5)
	hears[error](t, nil)
}

// A hub that New didn't make is one that was told 0.
func TestHubThatNewDidNotMake(t *testing.T) {
	h := new(hub.Hub[int])
	if n, ok := h.Tap(); n != 0 || !ok {
		t.Error("Tap", n, ok)
	}
	posts(t, h, 1, 4, 5)
	shows(t, h, 0, 1, 1)
	takes(t, h, 0, 4)
}
