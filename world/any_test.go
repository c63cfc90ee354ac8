package world_test

import (
	"math"
	"math/rand"
	"strings"
	"testing"

	"ostiary/api"
	"ostiary/ctrl"
	"ostiary/hub"
	"ostiary/talk"
	"ostiary/world"
)

// P1, P0.6: no call panics, and each one ends, at all arguments.

type dice struct{ *rand.Rand }

func (d dice) num() int {
	l := []int{math.MinInt, -65, -1, 0, 1, 2, 4, 7, 8, 9, 15, 16, 64, 65, 255, 256, 1024, 4096, 65535, 65536, 1 << 32, math.MaxInt}
	if d.Intn(2) == 0 {
		return d.Intn(10)
	}
	return l[d.Intn(len(l))]
}

func (d dice) place() api.Place {
	if d.Intn(6) == 0 {
		return at(d.num(), d.num())
	}
	return at(1+d.Intn(3), 1+d.Intn(4))
}

func (d dice) text() string {
	l := []string{"", "ann", "bob", "ha", "zoe", "any", "Ann", "abcdefghi", "\xff", strings.Repeat("x", 5000), "allow: any -> any;", "outbound: ann -> bob;", "group g = ann;", "group g = g;"}
	return l[d.Intn(len(l))]
}

func (d dice) bytes() []byte {
	b := make([]byte, []int{0, 1, 14, 42, 60, 512, 513, 5000}[d.Intn(8)])
	d.Read(b)
	return b
}

// any is one call, whichever.
func (d dice) any(w *world.World) {
	switch d.Intn(24) {
	case 0, 1, 2, 3, 4, 5:
		w.Move(d.Intn(3), d.Intn(3))
	case 6:
		w.Move(d.num(), d.num())
		w.Twice(d.num(), d.num())
		w.Lose(d.num(), d.num())
	case 7:
		w.Send(d.num(), d.bytes())
	case 8, 9:
		w.Tick()
	case 10:
		w.Join(d.place(), d.place())
	case 11:
		w.Attach(d.num(), d.place())
	case 12:
		w.Pull(d.place())
	case 13:
		if d.Intn(4) == 0 {
			w.Crash(d.num(), d.num())
		}
	case 14:
		w.Restart()
	case 15:
		if d.Intn(4) == 0 {
			w.Arm(d.num(), d.num())
		}
	case 16:
		w.Policy(d.text())
	case 17:
		w.User(d.text(), talk.Key{A: d.Uint64()})
	case 18:
		w.Host(d.text(), api.Mac(d.Uint64()>>d.Intn(64)))
	case 19:
		w.Revoke(d.text())
	case 20:
		w.Compact()
	case 21:
		h := hub.New[world.Delivery](d.num())
		h.Tap()
		w.Tell(h, d.num())
		w.Tell(nil, d.num())
	case 22:
		w.Switch(d.num()).Tick(w.Now())
		w.Ctrl().Tick(w.Now())
		w.Len(d.num())
	case 23:
		w.Frames()
		w.Delivered()
		w.Admitted()
		w.Marks()
		w.Step()
	}
}

func TestAnyCalls(t *testing.T) {
	for seed := range int64(30) {
		d := dice{rand.New(rand.NewSource(seed))}
		s := setup()
		s.Blocks, s.Quiet, s.Miss, s.Entries = 8+d.Intn(200), 1+d.Intn(10), 1+d.Intn(3), 1+d.Intn(9)
		w, e := world.New(s)
		if e != api.OK {
			t.Fatal(e)
		}
		for range 1500 {
			d.any(w)
		}
	}
	var none *world.World
	d := dice{rand.New(rand.NewSource(1))}
	for range 2000 {
		d.any(none)
	}
}

// Whatever a world is set up with, there is one, or there is none.
func TestAnySetup(t *testing.T) {
	d := dice{rand.New(rand.NewSource(2))}
	there := 0
	for range 4000 {
		s := setup()
		for range 1 + d.Intn(3) {
			switch v := d.num(); d.Intn(14) {
			case 0:
				s.Blocks = v
			case 1:
				s.Entries = v
			case 2:
				s.Miss = v
			case 3:
				s.Quiet = v
			case 4:
				s.Ctrl.Service = api.Ip(v)
			case 5:
				s.Ctrl.Mac = api.Mac(v)
			case 6:
				s.Ctrl.Hosts = v
			case 7:
				s.Ctrl.Lease = int64(v)
			case 8:
				s.Ctrl.Lock, s.Ctrl.Retry = int64(v), int64(d.num())
			case 9:
				s.Ctrl.Ping, s.Ctrl.Age = int64(v), int64(d.num())
			case 10:
				s.Ctrl.Idle = v
			case 11:
				s.Ctrl.Hard = v
			case 12:
				s.Ctrl.Flows = v
			case 13:
				s.Ctrl = ctrl.Config{Hosts: v}
			}
		}
		w, e := world.New(s)
		if (w == nil) != (e == api.ErrArg) || (w != nil) != (e == api.OK) {
			t.Fatalf("%+v: %v, %d", s, w, e)
		}
		if w == nil {
			continue
		}
		there++
		for range 20 {
			d.any(w)
		}
	}
	if there < 500 || there > 3500 {
		t.Error(there)
	}
}
