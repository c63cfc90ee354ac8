package world_test

import (
	"fmt"
	"math"
	"slices"
	"testing"

	"ostiary/api"
	"ostiary/hub"
	"ostiary/relay"
	"ostiary/talk"
	"ostiary/world"
)

func show(v any) string { return fmt.Sprintf("%+v", v) }

// same fails unless both are shown alike.
func same(t *testing.T, got, want any) {
	t.Helper()
	if show(got) != show(want) {
		t.Errorf("%s\nnot %s", show(got), show(want))
	}
}

// lens fails unless so many things are on each way.
func (n *net) lens(air, up, down int) {
	n.Helper()
	same(n.T, []int{n.Len(world.Air), n.Len(world.Up), n.Len(world.Down)}, []int{air, up, down})
}

// Of a nil world.
func TestNilWorld(t *testing.T) {
	var w *world.World
	for i := -1; i < 4; i++ {
		if w.Send(i, nil) || w.Move(i, 0) || w.Twice(i, 0) || w.Lose(i, 0) || w.Pull(at(1, 1)) || w.Crash(i) || w.Len(i) != 0 || w.Switch(i) != nil {
			t.Error("something befell", i)
		}
	}
	w.Tick()
	w.Arm(1, 2)
	p, e := w.Policy("")
	same(t, []any{w.Join(at(1, 1), at(2, 2)), w.Attach(0, at(1, 1)), w.Restart(), p, e, w.User("ann", talk.Key{}), w.Host("ha", 1), w.Revoke("ann"), w.Compact()},
		[]any{api.ErrNil, api.ErrNil, api.ErrNil, 0, api.ErrNil, api.ErrNil, api.ErrNil, api.ErrNil, api.ErrNil})
	if w.Now() != 0 || w.Step() != 0 || w.Ctrl() != nil || len(w.Frames()) != 0 || len(w.Delivered()) != 0 || len(w.Admitted()) != 0 || len(w.Marks()) != 0 {
		t.Error("something is there")
	}
	h := hub.New[world.Delivery](5)
	h.Tap()
	if w.Tell(h, 0) != 0 || w.Tell(h, -1) != 0 || w.Tell(nil, 0) != 0 || h.Len(0) != 0 {
		t.Error("something is told")
	}
}

func TestConstants(t *testing.T) {
	same(t, []int{world.Air, world.Up, world.Down}, []int{0, 1, 2})
}

// P30.1.

func TestNew(t *testing.T) {
	n := made(t, setup())
	n.lens(0, 0, 0)
	if n.Now() != 0 || n.Step() != 0 || n.Ctrl().Epoch() != 1 || len(n.Frames()) != 0 || len(n.Delivered()) != 0 || len(n.Admitted()) != 0 {
		t.Error(n.Now(), n.Step(), n.Ctrl().Epoch())
	}
	same(t, n.Marks(), []world.Mark{{Step: 0, Epoch: 1}})
	for sw := 1; sw <= 8; sw++ {
		r := n.Switch(sw)
		if r == nil || r.Open() || r.Life() != 1 || r.Epoch() != 0 || r.Ports() != 0 {
			t.Error(sw, r)
		}
	}
	for _, sw := range []int{math.MinInt, -1, 0, 9, 1<<32 + 1, math.MaxInt} {
		if n.Switch(sw) != nil {
			t.Error(sw)
		}
	}
	if r := n.Ctrl().Room(); r != 254 {
		t.Error(r)
	}
}

func TestNewErrors(t *testing.T) {
	changes := []func(s *world.Setup, v int){
		func(s *world.Setup, v int) { s.Entries = v },
		func(s *world.Setup, v int) { s.Miss = v },
		func(s *world.Setup, v int) { s.Quiet = v },
		func(s *world.Setup, v int) { s.Ctrl.Hosts = v },
		func(s *world.Setup, v int) { s.Ctrl.Flows = v },
		func(s *world.Setup, v int) { s.Ctrl.Ping = int64(v) },
		func(s *world.Setup, v int) { s.Blocks = v },
	}
	most := []int{1024, 64, 65535, 64, 1024, 65535, math.MaxInt}
	least := []int{1, 1, 1, 1, 1, 1, 4}
	for i, change := range changes {
		for _, v := range []int{math.MinInt, -1, 0, 1, 3, 4, 64, 65, 1024, 1025, 65535, 65536, 1<<32 + 1, math.MaxInt} {
			s := setup()
			change(&s, v)
			w, e := world.New(s)
			if may := v >= least[i] && v <= most[i]; may != (w != nil) || may != (e == api.OK) || !may && e != api.ErrArg {
				t.Error(i, v, w, e)
			}
		}
	}
	if w, e := world.New(world.Setup{}); w != nil || e != api.ErrArg {
		t.Error(w, e)
	}
}

// The setup reaches the switches: so many entries, frames that are held, and silent ticks.
func TestSetupOfSwitches(t *testing.T) {
	s := setup()
	s.Miss, s.Quiet, s.Ctrl.Ping = 2, 7, 100
	n := made(t, s)
	n.ok(n.Attach(0, at(8, 1)))
	n.rounds(5)
	if !n.Switch(8).Open() {
		t.Fatal("closed")
	}
	for i := range 3 {
		n.Send(0, n.udp(0, 5, 6, i, 7, nil))
		n.Move(world.Air, 0)
	}
	if h := n.Switch(8).Held(); h != 2 {
		t.Error(h)
	}
	for n.Now() < 11 { // the Welcome came at 4
		n.Tick()
	}
	if !n.Switch(8).Open() {
		t.Error("closed")
	}
	n.Tick()
	if n.Switch(8).Open() {
		t.Error("open")
	}
}

// P30.2.

func TestSend(t *testing.T) {
	n := made(t, setup())
	b := []byte("whatever it is")
	for _, host := range []int{math.MinInt, -1, 0, 15, 16, math.MaxInt} {
		if n.Send(host, b) {
			t.Error(host)
		}
	}
	n.ok(n.Attach(15, at(3, 4)))
	if n.Send(0, b) || !n.Send(15, b) || !n.Send(15, nil) || !n.Send(15, make([]byte, 512)) || n.Send(15, make([]byte, 513)) {
		t.Error("sent")
	}
	b[0] = 'X'
	l := n.Frames()
	want := world.Frame{To: at(3, 4), Host: -1, Tag: relay.Untagged, Bytes: []byte("whatever it is"), Origin: at(3, 4)}
	if len(l) != 3 || len(l[1].Bytes) != 0 || len(l[2].Bytes) != 512 {
		t.Fatal(l)
	}
	same(t, l[0], want)
	n.lens(3, 0, 0)
	for range 253 {
		if !n.Send(15, b) {
			t.Fatal("no room")
		}
	}
	if n.Send(15, b) {
		t.Error("more than there is room for")
	}
	n.lens(256, 0, 0)
}

func TestWays(t *testing.T) {
	n := made(t, setup())
	n.ok(n.Attach(0, at(1, 1)))
	for i := range 4 {
		n.Send(0, []byte{byte(i)})
	}
	for _, way := range []int{math.MinInt, -1, 3, math.MaxInt} {
		if n.Len(way) != 0 || n.Move(way, 0) || n.Twice(way, 0) || n.Lose(way, 0) {
			t.Error(way)
		}
	}
	for way := range 3 {
		for _, i := range []int{math.MinInt, -1, 4, math.MaxInt} {
			if n.Move(way, i) || n.Twice(way, i) || n.Lose(way, i) {
				t.Error(way, i)
			}
		}
		if way > 0 && (n.Move(way, 0) || n.Twice(way, 0) || n.Lose(way, 0)) {
			t.Error(way)
		}
	}
	order := func(want ...byte) {
		t.Helper()
		var got []byte
		for _, f := range n.Frames() {
			got = append(got, f.Bytes[0])
		}
		same(t, got, want)
	}
	if !n.Twice(world.Air, 1) {
		t.Error("Twice")
	}
	order(0, 1, 2, 3, 1)
	if !n.Lose(world.Air, 2) || !n.Lose(world.Air, 0) {
		t.Error("Lose")
	}
	order(1, 3, 1)
	if !n.Move(world.Air, 1) {
		t.Error("Move")
	}
	order(1, 1)
	for n.Len(world.Air) < 256 {
		n.Twice(world.Air, 0)
	}
	if n.Twice(world.Air, 0) {
		t.Error("more than there is room for")
	}
}

// Messages on their way are lost, doubled, and come late, too.
func TestMessagesOnTheirWay(t *testing.T) {
	n := made(t, setup())
	for range 4 {
		n.Tick()
	}
	n.lens(0, 8, 0) // a Join of each switch, in order
	if !n.Move(world.Up, 2) || !n.Twice(world.Up, 0) || !n.Lose(world.Up, 1) {
		t.Error("Up")
	}
	n.lens(0, 7, 1)
	if !n.Twice(world.Down, 0) || !n.Move(world.Down, 1) || !n.Switch(3).Open() || !n.Lose(world.Down, 0) {
		t.Error("Down")
	}
	n.lens(0, 8, 0)
	for range 7 {
		n.Move(world.Up, 0) // switches 1, 4, 5, 6, 7, 8, 1
	}
	for n.Len(world.Down) > 0 {
		n.Move(world.Down, 0)
	}
	for sw := 1; sw <= 8; sw++ {
		if n.Switch(sw).Open() != (sw != 2) {
			t.Error(sw)
		}
	}
}

// Each way has room for 256 things.
func TestRoomOfWays(t *testing.T) {
	n := made(t, setup())
	for range 4 * 33 {
		n.Tick()
	}
	n.lens(0, 256, 0)
	for i := range 256 {
		n.Move(world.Up, 0)
		if n.Len(world.Down) != min(i+1, 256) {
			t.Fatal(n.Len(world.Down))
		}
	}
	n.Tick()
	n.Tick()
	n.Tick()
	n.Tick()
	n.Move(world.Up, 0)
	n.lens(0, 7, 256)
}

// P30.3.

func TestTick(t *testing.T) {
	n := made(t, setup())
	for i := int64(1); i <= 3; i++ {
		n.Tick()
		if n.Now() != i {
			t.Error(n.Now())
		}
		n.lens(0, 0, 0)
	}
	n.Tick()
	n.lens(0, 8, 0)
	n.quiet()
	n.lens(0, 0, 0)
	for sw := 1; sw <= 8; sw++ {
		if !n.Switch(sw).Open() || n.Switch(sw).Epoch() != 1 {
			t.Error(sw)
		}
	}
	n.Tick()
	n.Tick()
	n.Tick()
	n.lens(0, 0, 0)
	n.Tick()
	n.lens(0, 0, 8) // Pings
	n.quiet()
	n.Tick()
	n.lens(0, 0, 0)
}

// The switches' acts are ahead of the controller's: what they say sets out first, at the time that is one more.
func TestTickOfSwitches(t *testing.T) {
	s := setup()
	s.Quiet = 3
	n := made(t, s)
	n.rounds(5) // they were welcomed at 4
	n.quiet()
	n.Tick()
	n.Tick()
	n.lens(0, 0, 0)
	n.Tick() // 8: they close, and join again; a Ping each
	n.lens(0, 8, 8)
	for sw := 1; sw <= 8; sw++ {
		if n.Switch(sw).Open() || n.Switch(sw).Life() != 2 {
			t.Error(sw)
		}
	}
}

func TestJoin(t *testing.T) {
	n := made(t, setup())
	same(t, []api.Errno{n.Join(at(1, 1), at(1, 1)), n.Join(at(0, 1), at(1, 1)), n.Join(at(1, 1), at(1, 9))}, []api.Errno{api.ErrArg, api.ErrArg, api.ErrArg})
	n.ok(n.Join(at(1, 2), at(3, 4)))
	same(t, []int{n.Switch(1).Ports(), n.Switch(3).Ports(), n.Switch(2).Ports()}, []int{0b10, 0b1000, 0})
	same(t, []api.Errno{n.Join(at(1, 2), at(2, 1)), n.Join(at(2, 1), at(3, 4)), n.Attach(0, at(1, 2))}, []api.Errno{api.ErrThere, api.ErrThere, api.ErrThere})
	same(t, []int{n.Switch(1).Ports(), n.Switch(3).Ports(), n.Switch(2).Ports()}, []int{0b10, 0b1000, 0})
	n.lens(0, 0, 0)
	n.rounds(5)
	n.quiet()
	n.ok(n.Join(at(5, 1), at(5, 8))) // of one switch, which is open: both are told
	n.lens(0, 2, 0)
	if n.Switch(5).Ports() != 0b10000001 {
		t.Error(n.Switch(5).Ports())
	}
	n.rounds(10)
	same(t, n.Ctrl().Links(), []api.Link{{A: at(1, 2), B: at(3, 4)}, {A: at(5, 1), B: at(5, 8)}})
}

func TestAttach(t *testing.T) {
	n := made(t, setup())
	same(t, []api.Errno{n.Attach(-1, at(1, 1)), n.Attach(16, at(1, 1)), n.Attach(0, at(9, 1))}, []api.Errno{api.ErrArg, api.ErrArg, api.ErrArg})
	n.ok(n.Attach(7, at(1, 1)))
	same(t, []api.Errno{n.Attach(7, at(1, 2)), n.Attach(6, at(1, 1)), n.Join(at(1, 1), at(2, 1))}, []api.Errno{api.ErrThere, api.ErrThere, api.ErrThere})
	same(t, []int{n.Switch(1).Ports(), n.Switch(2).Ports()}, []int{1, 0})
	n.rounds(5)
	n.quiet()
	n.ok(n.Attach(0, at(2, 3)))
	n.lens(0, 1, 0)
}

func TestPull(t *testing.T) {
	n := made(t, setup())
	for _, p := range []api.Place{at(1, 1), at(0, 0), at(9, 1), at(-1, 5)} {
		if n.Pull(p) {
			t.Error(p)
		}
	}
	n.ok(n.Join(at(1, 2), at(3, 4)))
	n.ok(n.Join(at(2, 2), at(2, 3)))
	n.ok(n.Attach(0, at(1, 1)))
	n.rounds(5)
	lives := func() []uint32 { return []uint32{n.Switch(1).Life(), n.Switch(2).Life(), n.Switch(3).Life()} }
	if !n.Pull(at(3, 4)) || n.Pull(at(3, 4)) || n.Pull(at(1, 2)) {
		t.Error("Pull")
	}
	same(t, lives(), []uint32{2, 1, 2}) // both close
	same(t, []int{n.Switch(1).Ports(), n.Switch(2).Ports(), n.Switch(3).Ports()}, []int{1, 0b110, 0})
	if !n.Pull(at(2, 2)) {
		t.Error("Pull")
	}
	same(t, lives(), []uint32{2, 2, 2})
	n.rounds(5)
	if !n.Pull(at(1, 1)) {
		t.Error("Pull")
	}
	same(t, lives(), []uint32{3, 2, 2})
	if n.Send(0, nil) {
		t.Error("sent")
	}
	n.ok(n.Join(at(1, 1), at(3, 4))) // all is free again
	n.ok(n.Attach(0, at(1, 2)))
}

// What is on its way to a cable's ends is lost with it; all else is not.
func TestPullLosesFrames(t *testing.T) {
	n, b := pair(t, setup(), 3, "allow: any -> any;")
	if !n.comes(0, b, n.tcp(0, b, 1, 2, ""), 8) || !n.comes(b, 0, n.tcp(b, 0, 1, 2, ""), 8) {
		t.Fatal("nothing comes")
	}
	n.news()
	n.all()
	n.Send(0, n.tcp(0, b, 1, 2, "on its way to 2"))
	n.Move(world.Air, 0)
	n.Send(b, n.tcp(b, 0, 1, 2, "on its way to 2, from the other end"))
	n.Move(world.Air, 1)
	n.Send(0, n.tcp(0, b, 1, 2, "on its way to 1"))
	n.Send(b, n.tcp(b, 0, 1, 2, "on its way to 1, from 2"))
	n.Move(world.Air, 3)
	n.Move(world.Air, 3)
	n.Send(0, n.tcp(0, b, 1, 2, "on its way to 2"))
	n.Move(world.Air, 4)
	var to []api.Place
	for _, f := range n.Frames() {
		to = append(to, f.To)
	}
	same(t, to, []api.Place{at(2, 7), at(2, 8), at(1, 1), at(1, 8), at(2, 7)})
	if !n.Pull(at(1, 8)) {
		t.Fatal("Pull")
	}
	to = nil
	for _, f := range n.Frames() {
		to = append(to, f.To)
	}
	same(t, to, []api.Place{at(2, 8), at(1, 1)})
}

// On its way to a machine, too.
func TestPullLosesWhatGoesToAMachine(t *testing.T) {
	n, b := pair(t, setup(), 2, "allow: any -> any;")
	if !n.comes(0, b, n.tcp(0, b, 1, 2, ""), 8) {
		t.Fatal("nothing comes")
	}
	n.all()
	send := func() {
		n.Send(0, n.tcp(0, b, 1, 2, "x"))
		n.Move(world.Air, n.Len(world.Air)-1)
		n.Move(world.Air, n.Len(world.Air)-1)
	}
	send()
	n.Send(b, nil) // this one, too: it is on its way to the switch there
	if l := n.Frames(); len(l) != 2 || l[0].Host != b || l[0].To != at(2, 1) || l[1].Host != -1 || l[1].To != at(2, 1) {
		t.Fatal(l)
	}
	n.Pull(at(2, 1))
	n.lens(0, 0, 0)
}

// A machine that was unplugged, and is elsewhere, or nowhere, is not where a frame goes to that was sent to it behind that.
func TestMachineThatMoved(t *testing.T) {
	n, b := pair(t, setup(), 2, "allow: any -> any;")
	if !n.comes(0, b, n.tcp(0, b, 1, 2, ""), 8) {
		t.Fatal("nothing comes")
	}
	n.quiet()
	n.Send(0, n.tcp(0, b, 1, 2, "x"))
	n.Move(world.Air, 0)
	n.Move(world.Air, 0)
	if f := n.Frames(); len(f) != 1 || f[0].Host != b || f[0].To != at(2, 1) {
		t.Fatal(f)
	}
	count := len(n.Delivered())
	n.Twice(world.Air, 0)
	n.Move(world.Air, 0)
	if len(n.Delivered()) != count+1 {
		t.Error("not delivered")
	}
	n.Pull(at(2, 1))
	n.ok(n.Attach(b, at(2, 2)))
	n.lens(0, 0, 0)
	if len(n.Delivered()) != count+1 {
		t.Error("delivered")
	}
}

func TestCrash(t *testing.T) {
	n := made(t, setup())
	n.people("", 1)
	n.ok(n.Attach(0, at(1, 1)))
	n.rounds(5)
	if !n.Crash() || n.Ctrl() != nil || n.Crash(1, 2) {
		t.Error("Crash")
	}
	p, e := n.Policy("")
	same(t, []any{p, e, n.User("zoe", talk.Key{}), n.Host("hz", 1), n.Revoke("ann"), n.Compact()}, []any{0, api.ErrDown, api.ErrDown, api.ErrDown, api.ErrDown, api.ErrDown})
	marks := n.Marks()
	for range 30 {
		n.round()
	}
	if n.Switch(1).Open() || n.Len(world.Down) != 0 {
		t.Error("open")
	}
	same(t, n.Marks(), marks)
	n.ok(n.Restart())
	c := n.Ctrl()
	if c == nil || c.Epoch() != 3 || len(c.State().Users()) != 3 {
		t.Error(c)
	}
	same(t, n.Marks(), marks) // it is noted when it was asked
	step := n.Step()
	n.Tick()
	same(t, n.Marks(), append(marks, world.Mark{Step: step + 1, Epoch: 3}))
}

// One that is there is another one behind a Restart, though no power went.
func TestRestartOfOneThatIsThere(t *testing.T) {
	n := made(t, setup())
	n.people("", 1)
	was := n.Ctrl()
	n.ok(n.Restart())
	if n.Ctrl() == was || n.Ctrl().Epoch() != 3 {
		t.Error(n.Ctrl().Epoch())
	}
}

func TestRestartError(t *testing.T) {
	s := setup()
	s.Blocks = 4 // banks of one block
	n := made(t, s)
	for range 3 {
		n.Crash()
		n.ok(n.Restart()) // each time all is written anew
	}
	n.Crash()
	n.Arm(2) // On takes it back
	n.ok(n.Restart())
	if n.Ctrl().Epoch() != 5 {
		t.Error(n.Ctrl().Epoch())
	}
}

// The power goes in the midst of a write: the controller is dead, but there.
func TestArm(t *testing.T) {
	for acts := 1; acts <= 4; acts++ {
		n := made(t, setup())
		n.people("", 1)
		n.Arm(acts, 64)
		e := n.User("zoe", talk.Key{})
		if acts > 2 && e != api.OK || acts <= 2 && e != api.ErrDown {
			t.Error(acts, e)
		}
		dead := n.Ctrl().Dead()
		if dead != (acts <= 2) {
			t.Error(acts, dead)
		}
		if !n.Crash(0) {
			t.Error("there was none")
		}
		n.ok(n.Restart())
		// a record that was written whole lasts, if it was kept
		if users := n.Ctrl().State().Users(); slices.Contains(users, "zoe") != (acts > 1) {
			t.Error(acts, users)
		}
		if n.Ctrl().Epoch() != 3 {
			t.Error(n.Ctrl().Epoch())
		}
	}
	n := made(t, setup())
	n.Arm(1)
	n.Arm(0) // taken back
	n.ok(n.User("ann", talk.Key{}))
}

// The power goes with what is kept of each write: nothing is pending between calls, so all that was written lasts.
func TestCrashKeep(t *testing.T) {
	for _, keep := range [][]int{nil, {0}, {64}, {-1, 5}} {
		n := made(t, setup())
		n.people("allow: any -> any;", 2)
		n.Crash(keep...)
		n.ok(n.Restart())
		if s := n.Ctrl().State(); s.Policy() != "allow: any -> any;" || len(s.Users()) != 3 || len(s.Hosts()) != 2 {
			t.Error(s.Recs(0))
		}
	}
}

// P30.4.

func TestThoseWhoRunIt(t *testing.T) {
	n := made(t, setup())
	n.ok(n.User("ann", keyOf("ann")))
	n.ok(n.Host("ha", 7))
	same(t, []api.Errno{n.User("ann", talk.Key{}), n.User("Ann", talk.Key{}), n.Host("hb", 7), n.Revoke("zoe")}, []api.Errno{api.ErrThere, api.ErrArg, api.ErrThere, api.ErrNone})
	p, e := n.Policy("allow: ann -> any; ?")
	same(t, []any{p, e}, []any{19, api.ErrSyntax})
	p, e = n.Policy("allow: zoe -> any;")
	same(t, []any{p, e}, []any{0, api.ErrName})
	n.lens(0, 0, 0)
	n.rounds(5)
	n.quiet()
	p, e = n.Policy("allow: ann -> any;")
	same(t, []any{p, e}, []any{0, api.OK})
	n.lens(0, 0, 8) // a Flush to each
	step := n.Step()
	n.ok(n.Revoke("ann"))
	n.lens(0, 0, 16)
	if n.Ctrl().Epoch() != 3 || len(n.Ctrl().State().Users()) != 0 {
		t.Error(n.Ctrl().State().Recs(0))
	}
	same(t, n.Marks(), []world.Mark{{Step: 0, Epoch: 1}, {Step: step, Epoch: 2}, {Step: step + 1, Epoch: 3}})
	room := n.Ctrl().Room()
	n.ok(n.Compact())
	if n.Ctrl().Room() <= room {
		t.Error(n.Ctrl().Room())
	}
	n.lens(0, 0, 16)
}

// At the world's time.
func TestTimeOfCalls(t *testing.T) {
	s := setup()
	s.Ctrl.Lease = 10
	n := made(t, s)
	n.people("", 1)
	n.ok(n.Attach(0, at(1, 1)))
	n.rounds(5)
	for range 40 {
		n.round()
	}
	if g := n.leases(0); g.Kind != talk.Granted || g.Ticks != 10 {
		t.Fatal(g)
	}
	b := n.Ctrl().Bindings()
	if len(b) != 1 || b[0].Until <= n.Now() || b[0].Until > n.Now()+10 {
		t.Fatal(b, n.Now())
	}
	for n.Now() < b[0].Until-1 {
		n.round()
	}
	if len(n.Ctrl().Bindings()) != 1 {
		t.Error("it is over too early")
	}
	n.round()
	if len(n.Ctrl().Bindings()) != 0 {
		t.Error("it is not over")
	}
}

// Each call that does something is a step, also one that is refused; what is asked is none.
func TestSteps(t *testing.T) {
	n := made(t, setup())
	want := 0
	for _, call := range []func(){
		func() { n.Send(0, nil) }, func() { n.Move(world.Air, 0) }, func() { n.Move(9, 0) }, func() { n.Twice(world.Up, 0) }, func() { n.Lose(world.Down, 0) },
		func() { n.Tick() }, func() { n.Join(at(1, 1), at(2, 2)) }, func() { n.Join(at(1, 1), at(2, 2)) }, func() { n.Attach(0, at(3, 3)) }, func() { n.Attach(0, at(3, 3)) },
		func() { n.Pull(at(3, 3)) }, func() { n.Pull(at(3, 3)) }, func() { n.Send(0, nil) }, func() { n.Arm(0) }, func() { n.Policy("") }, func() { n.Policy("?") },
		func() { n.User("ann", talk.Key{}) }, func() { n.Host("ha", 1) }, func() { n.Revoke("zoe") }, func() { n.Compact() }, func() { n.Crash() }, func() { n.Crash() }, func() { n.Restart() },
	} {
		call()
		want++
		if n.Step() != want {
			t.Fatal(n.Step(), want)
		}
	}
	n.Now()
	n.Len(0)
	n.Ctrl()
	n.Switch(1)
	n.Frames()
	n.Delivered()
	n.Admitted()
	n.Marks()
	n.Tell(nil, 0)
	if n.Step() != want {
		t.Error(n.Step())
	}
}

// P30.5.

func TestTell(t *testing.T) {
	n, b := pair(t, setup(), 2, "allow: any -> any;")
	for i := range 3 {
		n.comes(0, b, n.tcp(0, b, 1, 2, show(i)), 8)
	}
	l := n.Delivered()
	for _, from := range []int{math.MinInt, -1, 0, 1, len(l) - 1, len(l), len(l) + 1, math.MaxInt} {
		h := hub.New[world.Delivery](100)
		tap, _ := h.Tap()
		other, _ := h.Tap()
		want := l[min(max(from, 0), len(l)):]
		if k := n.Tell(h, from); k != 2*len(want) || h.Len(tap) != len(want) {
			t.Error(from, k, len(want))
		}
		for i := range want {
			d, _ := h.Take(other)
			same(t, d, want[i])
			if len(d.Bytes) > 0 {
				d.Bytes[0]++
			}
		}
	}
	h := hub.New[world.Delivery](2)
	if n.Tell(h, 0) != 0 {
		t.Error("nobody listens")
	}
	h.Tap()
	if n.Tell(h, 0) != 2 || h.Missed(0) != len(l)-2 {
		t.Error(h.Len(0), h.Missed(0))
	}
	if n.Tell(nil, 0) != 0 {
		t.Error("no hub")
	}
	same(t, n.Delivered(), l)
}

func TestAnswersAreCopies(t *testing.T) {
	n, b := pair(t, setup(), 3, "allow: any -> any;")
	n.comes(0, b, n.tcp(0, b, 1, 2, "x"), 8)
	n.Send(0, n.tcp(0, b, 1, 2, "y"))
	n.Move(world.Air, 0)
	look := func() string { return show([]any{n.Frames(), n.Delivered(), n.Admitted(), n.Marks()}) }
	was := look()
	f := n.Frames()
	f[0].Bytes[20]++
	f[0].Path[0].Sw = 9
	d := n.Delivered()
	last := len(d) - 1
	d[last].Bytes[20]++
	d[last].Path[0].Sw, d[last].Step = 9, 9
	a := n.Admitted()
	a[0].Path[0].Sw, a[0].Text = 9, "x"
	m := n.Marks()
	m[0].Epoch, m = 9, append(m[:1], world.Mark{})
	if is := look(); is != was {
		t.Error(is, was)
	}
	n.Twice(world.Air, 0)
	f = n.Frames()
	f[0].Bytes[20]++
	if g := n.Frames(); g[0].Bytes[20] != g[1].Bytes[20] {
		t.Error("changed")
	}
}

// What is noted of a flow: as things stood when it was let in.
func TestAdmitted(t *testing.T) {
	text := "deny: eve -> any; allow: ann -> bob tcp;"
	n, b := pair(t, setup(), 2, text)
	n.news()
	n.Send(0, n.tcp(0, b, 4000, 80, "x"))
	n.Move(world.Air, 0)
	n.Move(world.Up, n.Len(world.Up)-1)
	l := n.Admitted()
	if len(l) != 1 || l[0].Step != n.Step() {
		t.Fatal(l)
	}
	f := n.Ctrl().Flows()[0]
	bindings := n.Ctrl().Bindings()
	same(t, l[0], world.Admission{Flow: f, Step: n.Step(), Text: text, Src: bindings[0], Dst: bindings[1]})
	if l[0].Src.User != "ann" || l[0].Dst.User != "bob" || l[0].Rule != 1 {
		t.Error(l[0])
	}
	n.rounds(8) // it is noted once
	n.comes(0, b, n.tcp(0, b, 4001, 80, "x"), 8)
	n.comes(0, b, n.tcp(0, b, 4000, 80, "x"), 8)
	if l := n.Admitted(); len(l) != 2 || l[1].Key.Sport != 4001 || l[1].Step <= l[0].Step {
		t.Error(l)
	}
	// in another epoch it is another one
	n.Policy("allow: ann -> bob;")
	n.quiet()
	n.comes(0, b, n.tcp(0, b, 4000, 80, "x"), 8)
	if l := n.Admitted(); len(l) != 3 || l[2].Key != l[0].Key || l[2].Epoch != l[0].Epoch+1 || l[2].Text != "allow: ann -> bob;" || l[2].Rule != 0 {
		t.Error(l)
	}
}

// Flows of an elder and of a new controller, which numbers them anew.
func TestAdmittedBehindARestart(t *testing.T) {
	n, b := pair(t, setup(), 2, "allow: any -> any;")
	n.comes(0, b, n.tcp(0, b, 4000, 80, "x"), 8)
	n.Crash()
	n.ok(n.Restart())
	n.rounds(40)
	n.enters(0, "ann")
	n.enters(b, "bob")
	if !n.comes(0, b, n.tcp(0, b, 4000, 80, "x"), 8) {
		t.Error("nothing comes")
	}
	if l := n.Admitted(); len(l) != 2 || l[0].Id != l[1].Id || l[0].Epoch >= l[1].Epoch || l[0].Key != l[1].Key {
		t.Error(l)
	}
}

// One that died tells nothing: what it let in, but did not write down, was not let in.
func TestNotedOfADeadOne(t *testing.T) {
	for acts := 1; acts <= 3; acts++ {
		n, b := pair(t, setup(), 2, "allow: any -> any;")
		marks := n.Marks()
		n.Arm(acts)
		n.comes(0, b, n.tcp(0, b, 4000, 80, "x"), 3)
		if !n.Ctrl().Dead() || len(n.Admitted()) != 0 {
			t.Error(n.Ctrl().Dead(), n.Admitted())
		}
		n.Revoke("ann")
		same(t, n.Marks(), marks)
	}
}

// The first 4096 of each are kept.
func TestMostNotes(t *testing.T) {
	s := setup()
	n, b := pair(t, s, 2, "allow: any -> any;")
	n.comes(0, b, n.tcp(0, b, 1, 2, ""), 8)
	n.all()
	for len(n.Delivered()) < 4000 {
		for range 200 {
			n.Send(0, n.tcp(0, b, 1, 2, ""))
		}
		for n.Len(world.Air) > 0 {
			n.Move(world.Air, 0)
		}
	}
	for i := range 200 {
		n.Send(0, n.tcp(0, b, 1, 2, show(i)))
	}
	n.all()
	l := n.Delivered()
	if len(l) != 4096 || len(l[4095].Bytes) == len(l[3000].Bytes) {
		t.Error(len(l))
	}
	n.Send(0, n.tcp(0, b, 1, 2, "one more"))
	n.all()
	same(t, n.Delivered()[4095], l[4095])
	for i := range 4200 {
		if n.Ctrl().Room() < 30 {
			n.ok(n.Compact())
		}
		if len(n.Marks()) == 4096 && i < 4000 {
			t.Fatal(i)
		}
		n.Policy("allow: any -> any;")
	}
	m := n.Marks()
	if len(m) != 4096 || m[4095].Epoch != m[0].Epoch+4095 {
		t.Error(len(m))
	}
}

// Which port comes up first is the one that is named first.
func TestJoinInOrder(t *testing.T) {
	for _, l := range [][2]api.Place{{at(5, 1), at(6, 2)}, {at(6, 2), at(5, 1)}} {
		n := made(t, setup())
		n.rounds(5)
		n.quiet()
		n.ok(n.Join(l[0], l[1]))
		n.lens(0, 2, 0)
		n.Lose(world.Up, 1)
		n.quiet()
		for n.Len(world.Down) == 0 {
			n.Tick()
		}
		n.lens(0, 0, 8+1)
		for n.Len(world.Down) > 0 {
			n.Move(world.Down, 0)
		}
		if f := n.Frames(); len(f) != 1 || f[0].To != l[1] || string(f[0].Bytes) != string([]byte{byte(l[0].Sw), byte(l[0].Port)}) {
			t.Error(f)
		}
	}
}
