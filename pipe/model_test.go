package pipe_test

import (
	"math/rand"
	"slices"
	"testing"

	"ostiary/pipe"
)

// model is a pipe as the chapter tells it: a plain list, and a count for each thing that befalls.
type model struct {
	tally
	l    []int
	most int
}

func (m *model) there(i int) bool { return i >= 0 && i < len(m.l) }

func (m *model) send(l []int) int {
	n := 0
	for _, v := range l {
		m.sent++
		if len(m.l) == m.most {
			m.lost++
			continue
		}
		m.l = append(m.l, v)
		n++
	}
	return n
}

func (m *model) take(i int) int {
	v := m.l[i]
	m.l = slices.Concat(m.l[:i], m.l[i+1:])
	m.came++
	return v
}

func (m *model) twice(i int) bool {
	if !m.there(i) || len(m.l) == m.most {
		return false
	}
	m.l = append(m.l, m.l[i])
	m.doubled++
	return true
}

func (m *model) lose(l []int) int {
	n := 0
	for _, i := range l {
		if m.there(i) {
			m.l = slices.Concat(m.l[:i], m.l[i+1:])
			m.lost++
			n++
		}
	}
	return n
}

func TestByChance(t *testing.T) {
	counts := map[string]int{}
	for seed := range int64(120) {
		d := rand.New(rand.NewSource(seed))
		m := &model{most: 1 + d.Intn(12)}
		p := pipe.New[int](m.most)
		for range 300 {
			step(t, d, p, m, counts)
			has(t, p, m.tally, m.l...)
			if t.Failed() {
				t.FailNow()
			}
		}
	}
	for _, what := range []string{"sent", "unsent", "came", "nothing", "doubled", "undoubled", "lost", "unlost"} {
		if counts[what] < 400 {
			t.Error("too few:", what, counts)
		}
	}
}

// step does one thing by chance to both.
func step(t *testing.T, d *rand.Rand, p *pipe.Pipe[int], m *model, counts map[string]int) {
	t.Helper()
	i := d.Intn(m.most+3) - 1
	switch d.Intn(4) {
	case 0:
		l := make([]int, d.Intn(4))
		for k := range l {
			l[k] = m.sent + 1 + k // each thing is sent once
		}
		want := m.send(l)
		sends(t, p, want, l...)
		counts["sent"] += want
		counts["unsent"] += len(l) - want
	case 1:
		if !m.there(i) {
			takesNothing(t, p, i)
			counts["nothing"]++
			return
		}
		v := m.take(i)
		takes(t, p, i, v)
		if v < 1 || v > m.sent { // P20.4
			t.Errorf("%d came, but was not sent", v)
		}
		counts["came"]++
	case 2:
		want := m.twice(i)
		doubles(t, p, i, want)
		counts[map[bool]string{true: "doubled", false: "undoubled"}[want]]++
	case 3:
		l := make([]int, d.Intn(4))
		for k := range l {
			l[k] = d.Intn(m.most+3) - 1
		}
		want := m.lose(l)
		loses(t, p, want, l...)
		counts["lost"] += want
		counts["unlost"] += len(l) - want
	}
}
