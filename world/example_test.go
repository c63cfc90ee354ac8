package world_test

import (
	"slices"
	"strconv"
	"testing"

	"ostiary/api"
	"ostiary/ctrl"
	"ostiary/pol"
	"ostiary/talk"
	"ostiary/world"
)

// DOC.md's ten examples of the whole, and the chapter's own.

// 1, and the chapter's.
func TestNobodyKnown(t *testing.T) {
	n := made(t, setup())
	n.people("allow: any -> any;", 2)
	n.ok(n.Attach(5, at(1, 1)))
	n.ok(n.Attach(0, at(1, 2)))
	n.rounds(8)
	n.quiet()
	n.ips[5], n.ips[0] = service+1, service+2
	n.Send(5, n.tcp(5, 0, 4000, 80, "x"))
	n.Move(world.Air, 0)
	n.lens(0, 1, 0) // a Miss
	if n.Switch(1).Held() != 1 {
		t.Error("not held")
	}
	n.Move(world.Up, 0)
	n.lens(0, 0, 1) // a Free
	n.Move(world.Down, 0)
	n.lens(0, 0, 0)
	if n.Switch(1).Held() != 0 || len(n.Delivered()) != 0 || len(n.Admitted()) != 0 {
		t.Error(n.Switch(1).Held(), n.Delivered())
	}
}

// 2.
func TestAllow(t *testing.T) {
	n, b := pair(t, setup(), 3, "allow: ann -> bob tcp port 80;")
	if !n.comes(0, b, n.tcp(0, b, 4000, 80, "x"), 7) {
		t.Error("port 80")
	}
	if n.comes(0, b, n.tcp(0, b, 4000, 81, "x"), 30) {
		t.Error("port 81")
	}
	if n.comes(b, 0, n.tcp(b, 0, 80, 4000, "x"), 30) || n.comes(b, 0, n.tcp(b, 0, 4000, 80, "x"), 30) {
		t.Error("his")
	}
	n.news()
	f := n.tcp(0, b, 4000, 80, "many")
	for range 5 {
		n.Send(0, f)
	}
	n.rounds(2)
	if l := n.news(); len(l) != 5 {
		t.Error(len(l))
	}
}

// 3.
func TestOutbound(t *testing.T) {
	n, b := pair(t, setup(), 3, "outbound: ann -> bob;")
	back := n.tcp(b, 0, 80, 4000, "back")
	if n.comes(b, 0, back, 30) {
		t.Error("he came first")
	}
	if !n.comes(0, b, n.tcp(0, b, 4000, 80, "x"), 7) || !n.comes(b, 0, back, 7) {
		t.Error("nothing comes")
	}
	if n.comes(b, 0, n.tcp(b, 0, 81, 4000, "back"), 30) {
		t.Error("no way back")
	}
	if l := n.Admitted(); len(l) != 2 || l[0].Act != pol.Outbound || l[1].Act != pol.Allow {
		t.Error(l)
	}
	// as long as the way there is let in
	n.Policy("outbound: ann -> bob;")
	n.quiet()
	if n.comes(b, 0, back, 30) {
		t.Error("it came still")
	}
}

// 4.
func TestVia(t *testing.T) {
	n := made(t, setup())
	n.people("via 2, 3: ann -> bob; via 4: bob -> ann;", 2)
	// 1 and 4 are joined; 2 and 3 are, and each with both
	for _, l := range [][2]api.Place{{at(1, 8), at(4, 8)}, {at(1, 7), at(2, 7)}, {at(2, 6), at(3, 6)}, {at(3, 5), at(4, 5)}, {at(3, 4), at(1, 4)}} {
		n.ok(n.Join(l[0], l[1]))
	}
	n.ok(n.Attach(0, at(1, 1)))
	n.ok(n.Attach(1, at(4, 1)))
	n.rounds(10)
	n.enters(0, "ann")
	n.enters(1, "bob")
	f := n.tcp(0, 1, 4000, 80, "x")
	if !n.comes(0, 1, f, 8) {
		t.Fatal("nothing comes")
	}
	l := n.Delivered()
	want := []api.Hop{{Sw: 1, In: 1, Out: 7}, {Sw: 2, In: 7, Out: 6}, {Sw: 3, In: 6, Out: 5}, {Sw: 4, In: 5, Out: 1}}
	same(t, l[len(l)-1].Path, want)
	same(t, n.Ctrl().Flows()[0].Path, want)
	if !n.comes(1, 0, n.tcp(1, 0, 80, 4000, "x"), 6) {
		t.Error("the other way")
	}
	n.Pull(at(2, 6))
	n.rounds(30)
	n.enters(0, "ann")
	n.enters(1, "bob")
	if !n.comes(0, 1, f, 9) {
		t.Fatal("there is a way from 2 to 3 by 1")
	}
	l = n.Delivered()
	same(t, l[len(l)-1].Path, []api.Hop{{Sw: 1, In: 1, Out: 7}, {Sw: 2, In: 7, Out: 7}, {Sw: 1, In: 7, Out: 4}, {Sw: 3, In: 4, Out: 5}, {Sw: 4, In: 5, Out: 1}})
	n.Policy("via 5: ann -> bob;")
	n.quiet()
	if n.comes(0, 1, f, 30) {
		t.Error("there is none by 5")
	}
}

// 5. (That it is ErrNone, or ErrSpoof, is told by the controller's tests, as a world shows nobody its journal.)
func TestSpoof(t *testing.T) {
	n, b := pair(t, setup(), 2, "allow: any -> any;")
	n.ok(n.Attach(9, at(2, 4)))
	n.rounds(4)
	f := n.tcp(0, b, 4000, 80, "forged")
	room := n.Ctrl().Room()
	if n.comes(9, b, f, 10) { // nobody is at that port
		t.Error("forged")
	}
	if n.comes(b, 0, n.tcp(0, b, 4000, 80, "forged"), 10) { // another one is
		t.Error("forged")
	}
	if r := n.Ctrl().Room(); r != room-2 || len(n.Admitted()) != 0 { // both were written down
		t.Error(r, room, n.Admitted())
	}
	if !n.comes(0, b, f, 6) || n.comes(9, b, f, 10) { // also as long as the true one talks
		t.Error("forged")
	}
	n.Send(9, f)
	n.quiet()
	if l := n.Delivered(); l[len(l)-1].Origin != at(1, 1) {
		t.Error(l[len(l)-1])
	}
}

// 6.
func TestRevoked(t *testing.T) {
	n, b := pair(t, setup(), 3, "allow: any -> any;")
	f := n.tcp(0, b, 4000, 80, "x")
	if !n.comes(0, b, f, 7) {
		t.Fatal("nothing comes")
	}
	n.quiet()
	n.ok(n.Revoke("ann"))
	// no switch has heard of it yet
	n.news()
	n.Send(0, f)
	for n.Len(world.Air) > 0 {
		n.Move(world.Air, 0)
	}
	if l := n.news(); len(l) != 1 || l[0].Epoch >= n.Ctrl().Epoch() {
		t.Error(l)
	}
	// the one at the end has
	for range 3 {
		n.Move(world.Down, n.Len(world.Down)-6)
	}
	n.Send(0, f)
	for n.Len(world.Air) > 0 {
		n.Move(world.Air, 0)
	}
	if l := n.news(); len(l) != 0 {
		t.Error(l)
	}
	n.quiet()
	if n.comes(0, b, f, 30) || n.comes(b, 0, n.tcp(b, 0, 80, 4000, "x"), 30) {
		t.Error("she is revoked")
	}
	if m := n.logsIn(0, "ann"); m.Kind != talk.Reject || m.Why != int(api.ErrAuth) {
		t.Error(m)
	}
}

// 6: a switch that hears nothing of it any more closes.
func TestRevokedUnheard(t *testing.T) {
	n, b := pair(t, setup(), 2, "allow: any -> any;")
	f := n.tcp(0, b, 4000, 80, "x")
	if !n.comes(0, b, f, 6) {
		t.Fatal("nothing comes")
	}
	n.quiet()
	n.ok(n.Revoke("ann"))
	for range setup().Quiet + 1 {
		for n.Len(world.Down) > 0 {
			n.Lose(world.Down, 0)
		}
		n.Tick()
	}
	n.news()
	n.Send(0, f)
	for n.Len(world.Air) > 0 {
		n.Move(world.Air, 0)
	}
	if l := n.news(); len(l) != 0 || n.Switch(1).Open() || n.Switch(2).Open() {
		t.Error(l)
	}
}

// ring is three switches, each joined with both others.
func ring(t *testing.T, policy string) *net {
	t.Helper()
	n := made(t, setup())
	n.people(policy, 3)
	for sw := 1; sw <= 3; sw++ {
		n.ok(n.Join(at(sw, 8), at(sw%3+1, 7)))
		n.ok(n.Attach(sw-1, at(sw, 1)))
	}
	n.rounds(10)
	n.enters(0, "ann")
	n.enters(1, "bob")
	return n
}

// 7.
func TestPulledCable(t *testing.T) {
	n := ring(t, "allow: any -> any;")
	f := n.tcp(0, 1, 4000, 80, "x")
	if !n.comes(0, 1, f, 6) {
		t.Fatal("nothing comes")
	}
	n.quiet()
	n.Send(0, f)
	n.Move(world.Air, 0)
	count := len(n.Delivered())
	n.Pull(at(2, 7))
	n.lens(0, 0, 0) // lost
	if n.Switch(1).Open() || n.Switch(2).Open() || !n.Switch(3).Open() || len(n.Switch(1).Entries())+len(n.Switch(2).Entries()) != 0 {
		t.Error("open")
	}
	n.rounds(12)
	if len(n.Delivered()) != count {
		t.Error("it came")
	}
	n.enters(0, "ann")
	n.enters(1, "bob")
	if !n.comes(0, 1, f, 7) {
		t.Fatal("nothing comes")
	}
	l := n.Delivered()
	same(t, l[len(l)-1].Path, []api.Hop{{Sw: 1, In: 1, Out: 7}, {Sw: 3, In: 8, Out: 7}, {Sw: 2, In: 8, Out: 1}})
	if a := n.Admitted(); len(a) != 2 || a[0].Epoch >= a[1].Epoch || len(a[0].Path) != 2 || len(a[1].Path) != 3 {
		t.Error(a)
	}
}

// 8, 9.
func TestControllerWithoutPower(t *testing.T) {
	n, b := pair(t, setup(), 3, "allow: ann -> any;")
	f := n.tcp(0, b, 4000, 80, "x")
	if !n.comes(0, b, f, 7) {
		t.Fatal("nothing comes")
	}
	n.quiet()
	epoch := n.Ctrl().Epoch()
	n.Crash(5)
	for range 10 {
		if !n.comes(0, b, f, 1) {
			t.Fatal("what was let in goes on")
		}
	}
	if n.comes(0, b, n.tcp(0, b, 4001, 80, "x"), 3) {
		t.Error("nobody could let that in")
	}
	n.rounds(setup().Quiet)
	for sw := 1; sw <= 8; sw++ {
		if n.Switch(sw).Open() || len(n.Switch(sw).Entries()) != 0 {
			t.Error(sw)
		}
	}
	if n.comes(0, b, f, 30) {
		t.Error("it came")
	}
	n.ok(n.Restart())
	c := n.Ctrl()
	s := c.State()
	if c.Epoch() <= epoch || len(c.Bindings()) != 0 || len(c.Flows()) != 0 {
		t.Error(c.Epoch(), c.Bindings(), c.Flows())
	}
	same(t, []any{s.Users(), s.Hosts(), s.Policy()}, []any{[]string{"ann", "bob", "eve"}, []string{"ha", "hb", "hc"}, "allow: ann -> any;"})
	if l := s.Leases(); len(l) != 2 || l[0].Mac != macOf(0) || l[1].Mac != macOf(b) || l[0].Ip != n.ips[0] || l[1].Ip != n.ips[b] {
		t.Error(l)
	}
	n.rounds(12)
	if n.comes(0, b, f, 30) {
		t.Error("nobody is logged in")
	}
	n.enters(0, "ann")
	n.enters(b, "bob")
	if !n.comes(0, b, f, 7) {
		t.Error("nothing comes")
	}
}

// 10.
func TestFullJournal(t *testing.T) {
	s := setup()
	s.Blocks = 92 // banks of 45
	n, b := pair(t, s, 2, "allow: any -> any;")
	last := 0
	for i := range 40 {
		if !n.comes(0, b, n.tcp(0, b, 4000, 1+i, "x"), 12) {
			break
		}
		last = 1 + i
	}
	if room := n.Ctrl().Room(); last == 0 || last == 40 || room < ctrl.Reserve || n.Ctrl().Dead() || len(n.Ctrl().Flows()) != last {
		t.Fatal(last, room)
	}
	if !n.comes(0, b, n.tcp(0, b, 4000, last, "x"), 6) {
		t.Error("what was let in goes on")
	}
	if n.Ctrl().Room() > ctrl.Reserve {
		n.ok(n.User("fay", talk.Key{}))
	}
	same(t, []api.Errno{n.User("zoe", talk.Key{}), n.Host("hz", 1)}, []api.Errno{api.ErrFull, api.ErrFull})
	// what must be written down goes on
	for _, name := range []string{"ann", "bob", "ha"} {
		if e := n.Revoke(name); e != api.OK {
			t.Fatal(name, e, n.Ctrl().Room())
		}
		n.quiet()
	}
	if n.comes(0, b, n.tcp(0, b, 4000, last, "x"), 6) {
		t.Error("she is revoked")
	}
	if e := n.Revoke("hb"); e != api.ErrFull || n.Ctrl().Dead() || n.Ctrl().Room() != 0 {
		t.Error(e, n.Ctrl().Room())
	}
	// till there is no room for that, too
	for i := 0; !n.Ctrl().Dead(); i++ {
		if i > 40 {
			t.Fatal("it never dies")
		}
		n.Pull(at(1, 8))
		n.rounds(5)
		n.ok(n.Join(at(1, 8), at(2, 7)))
		n.rounds(9)
	}
	n.rounds(setup().Quiet + 5)
	for sw := 1; sw <= 8; sw++ {
		if n.Switch(sw).Open() {
			t.Error(sw)
		}
	}
	same(t, []api.Errno{n.Revoke("eve"), n.Compact(), n.User("zoe", talk.Key{})}, []api.Errno{api.ErrDown, api.ErrDown, api.ErrDown})
	// opened again all is written anew
	n.Crash()
	n.ok(n.Restart())
	if st := n.Ctrl().State(); len(st.Revoked()) != 3 || n.Ctrl().Room() < 20 {
		t.Error(st.Revoked(), n.Ctrl().Room())
	}
}

// Eight switches in a row: the longest way of that kind.
func TestEightSwitches(t *testing.T) {
	n, b := pair(t, setup(), 8, "allow: any -> any;")
	if !n.comes(0, b, n.tcp(0, b, 4000, 80, "x"), 12) || !n.comes(b, 0, n.tcp(b, 0, 80, 4000, "x"), 12) {
		t.Error("nothing comes")
	}
	l := n.Delivered()
	if d := l[len(l)-1]; len(d.Path) != 8 || d.Origin != at(8, 1) || d.Host != 0 {
		t.Error(d)
	}
}

// Many flows at once, from each to each.
func TestManyFlows(t *testing.T) {
	n := ring(t, "allow: any -> any tcp;")
	n.enters(2, "eve")
	n.quiet()
	n.news()
	want := map[string]int{}
	for i := range 3 {
		for j := range 3 {
			for port := range 2 {
				if i != j {
					b := n.tcp(i, j, 4000, port, strconv.Itoa(i)+strconv.Itoa(j))
					want[string(b)]++
					n.Send(i, b)
				}
			}
		}
	}
	n.rounds(6)
	got := map[string]int{}
	for _, d := range n.news() {
		got[string(d.Bytes)]++
	}
	same(t, got, want)
	if !slices.ContainsFunc(n.Admitted(), func(a world.Admission) bool { return a.Src.User == "eve" && a.Dst.User == "bob" }) {
		t.Error(n.Admitted())
	}
}
