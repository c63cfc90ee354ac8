package world_test

import (
	"testing"

	"ostiary/api"
	"ostiary/ctl"
	"ostiary/relay"
	"ostiary/talk"
	"ostiary/world"
)

// Frames on their way, switch by switch: what they have there.

// welcome opens a switch by hand, in an epoch.
func (n *net) welcome(sw int, epoch uint32) {
	r := n.Switch(sw)
	r.Control(ctl.Msg{Kind: ctl.Welcome, Sw: sw, Life: r.Life(), Epoch: epoch}, n.Now())
}

// entry puts one in by hand.
func (n *net) entry(h api.Hop, k api.Key, enter, last bool) {
	r := n.Switch(h.Sw)
	r.Control(ctl.Msg{Kind: ctl.Add, Sw: h.Sw, Life: r.Life(), Epoch: r.Epoch(), Port: h.In, Out: h.Out, Enter: enter, Last: last, Key: k}, n.Now())
}

// by hand: machine 0 at switch 1, machine 1 at switch 3, and a cable from 1 to 2, and from 2 to 3; all three are open, in unlike epochs.
func byHand(t *testing.T) *net {
	t.Helper()
	n := made(t, setup())
	n.ok(n.Attach(0, at(1, 1)))
	n.ok(n.Join(at(1, 8), at(2, 7)))
	n.ok(n.Join(at(2, 8), at(3, 7)))
	n.ok(n.Attach(1, at(3, 1)))
	for sw := 1; sw <= 3; sw++ {
		n.welcome(sw, 6)
	}
	n.ips[0], n.ips[1] = service+1, service+2
	return n
}

func (n *net) air(want ...world.Frame) {
	n.Helper()
	same(n.T, n.Frames(), want)
}

func TestFlight(t *testing.T) {
	n := byHand(t)
	b := n.tcp(0, 1, 4000, 80, "x")
	k := flowOf(t, b)
	path := []api.Hop{{Sw: 1, In: 1, Out: 8}, {Sw: 2, In: 7, Out: 8}, {Sw: 3, In: 7, Out: 1}}
	n.entry(path[0], k, true, false)
	n.entry(path[1], k, false, false)
	n.entry(path[2], k, false, true)
	n.Send(0, b)
	f := world.Frame{To: at(1, 1), Host: -1, Tag: relay.Untagged, Bytes: b, Origin: at(1, 1)}
	n.air(f)
	n.Move(world.Air, 0)
	f.To, f.Tag, f.Epoch, f.Path = at(2, 7), 6, 6, path[:1]
	n.air(f)
	n.Move(world.Air, 0)
	f.To, f.Path = at(3, 7), path[:2]
	n.air(f)
	n.Twice(world.Air, 0)
	n.Move(world.Air, 0)
	g := f
	f.To, f.Tag, f.Path, f.Host = at(3, 1), relay.Untagged, path, 1
	n.air(g, f)
	n.Move(world.Air, 1)
	same(t, n.Delivered(), []world.Delivery{{Frame: f, Step: n.Step()}})
	n.Move(world.Air, 0)
	n.Move(world.Air, 0)
	n.air()
	same(t, n.Delivered(), []world.Delivery{{Frame: f, Step: n.Step() - 2}, {Frame: f, Step: n.Step()}})
	n.lens(0, 0, 0)
}

// A frame that was let in in an epoch has that one, also where a switch has another one by then.
func TestFlightOfAnElderEpoch(t *testing.T) {
	n := byHand(t)
	b := n.tcp(0, 1, 4000, 80, "x")
	k := flowOf(t, b)
	n.entry(api.Hop{Sw: 1, In: 1, Out: 8}, k, true, false)
	n.Send(0, b)
	n.Move(world.Air, 0)
	n.welcome(2, 7)
	n.Switch(2).Control(ctl.Msg{Kind: ctl.Add, Sw: 2, Life: 1, Epoch: 7, Port: 7, Out: 8, Key: k}, 0)
	n.Move(world.Air, 0)
	n.air() // dropped
	n.lens(0, 0, 0)
}

// A frame that was held has its way from where it came in.
func TestFlightOfAHeldFrame(t *testing.T) {
	n, to := pair(t, setup(), 3, "allow: any -> any;")
	b := n.tcp(0, to, 4000, 80, "x")
	n.quiet()
	n.Send(0, b)
	n.Move(world.Air, 0)
	if n.Switch(1).Held() != 1 {
		t.Fatal("not held")
	}
	for n.Switch(1).Held() > 0 {
		n.Move(world.Up, 0)
		n.Move(world.Down, 0)
	}
	epoch := n.Ctrl().Epoch()
	n.air(world.Frame{To: at(2, 7), Host: -1, Tag: int64(epoch), Bytes: b, Origin: at(1, 1), Epoch: epoch, Path: []api.Hop{{Sw: 1, In: 1, Out: 8}}})
	n.lens(1, 1, 0) // and the last Done
}

// At a port where nothing is plugged in a frame is gone; and one with a tag, where a machine is.
func TestGone(t *testing.T) {
	n := byHand(t)
	b := n.tcp(0, 1, 4000, 80, "x")
	k := flowOf(t, b)
	n.ok(n.Attach(2, at(1, 2)))
	n.quiet()
	n.entry(api.Hop{Sw: 1, In: 1, Out: 2}, k, true, false) // not the last one: it has a tag
	n.Send(0, b)
	n.Move(world.Air, 0)
	n.lens(0, 0, 0)
	n.entry(api.Hop{Sw: 1, In: 1, Out: 2}, k, true, true)
	n.Send(0, b)
	n.Move(world.Air, 0)
	if f := n.Frames(); len(f) != 1 || f[0].Host != 2 || f[0].To != at(1, 2) {
		t.Error(f)
	}
	n.Move(world.Air, 0)
	n.Switch(1).Plug(5, true, 0) // it is up, but nothing is there
	n.entry(api.Hop{Sw: 1, In: 1, Out: 5}, k, true, true)
	n.Send(0, b)
	n.Move(world.Air, 0)
	n.lens(0, 0, 0)
	if len(n.Delivered()) != 1 {
		t.Error(n.Delivered())
	}
}

// What comes to a switch without a tag is as from a machine there, whoever sent it, and by whatever way.
func TestUntaggedFromASwitch(t *testing.T) {
	n := byHand(t)
	b := n.tcp(0, 1, 4000, 80, "x")
	k := flowOf(t, b)
	n.entry(api.Hop{Sw: 1, In: 1, Out: 8}, k, true, true) // the last hop, though a switch is there
	n.Send(0, b)
	n.Move(world.Air, 0)
	f := world.Frame{To: at(2, 7), Host: -1, Tag: relay.Untagged, Bytes: b, Origin: at(1, 1), Epoch: 6, Path: []api.Hop{{Sw: 1, In: 1, Out: 8}}}
	n.air(f)
	n.welcome(2, 9)
	n.Switch(2).Control(ctl.Msg{Kind: ctl.Add, Sw: 2, Life: 1, Epoch: 9, Port: 7, Out: 8, Enter: true, Key: k}, 0)
	n.Move(world.Air, 0)
	f.To, f.Tag, f.Origin, f.Epoch, f.Path = at(3, 7), 9, at(2, 7), 9, []api.Hop{{Sw: 2, In: 7, Out: 8}}
	n.air(f)
}

// What the controller sends is the service's, without a hop; probes go to switches alone.
func TestService(t *testing.T) {
	n := made(t, setup())
	n.people("", 2)
	n.ok(n.Attach(0, at(1, 1)))
	n.ok(n.Join(at(1, 8), at(2, 7)))
	n.rounds(7)
	n.quiet()
	n.Tick() // 8: a Ping, and Probes
	n.lens(0, 0, 8+3)
	for range 11 {
		n.Move(world.Down, 0)
	}
	probe := func(to, from api.Place) world.Frame {
		return world.Frame{To: to, Host: -1, Tag: relay.Probing, Bytes: []byte{byte(from.Sw), byte(from.Port)}, Service: true}
	}
	n.air(probe(at(2, 7), at(1, 8)), probe(at(1, 8), at(2, 7)))
	n.lens(2, 8, 0)
	n.quiet()
	same(t, n.Ctrl().Links(), []api.Link{{A: at(1, 8), B: at(2, 7)}})
	body, _ := talk.Encode(talk.Msg{Kind: talk.Discover, Mac: macOf(0)})
	n.Send(0, n.udp(0, serviceMac, everybody, 5000, api.LeasePort, body))
	n.Move(world.Air, 0)
	n.Move(world.Up, 0)
	n.Move(world.Down, 0)
	l := n.Frames()
	if len(l) != 1 {
		t.Fatal(l)
	}
	n.air(world.Frame{To: at(1, 1), Host: 0, Tag: relay.Untagged, Bytes: l[0].Bytes, Service: true})
	n.Move(world.Air, 0)
	same(t, n.Delivered(), []world.Delivery{{Frame: l[0], Step: n.Step()}})
	n.lens(0, 0, 1) // a Free
}

// What the controller sends out at a port where a switch is comes there as from a machine.
func TestServiceToASwitch(t *testing.T) {
	n := made(t, setup())
	n.people("", 2)
	n.rounds(5)
	n.quiet()
	n.ok(n.Attach(0, at(2, 1)))
	n.ok(n.Join(at(1, 5), at(2, 5)))
	n.quiet() // the controller knows these ports, but not yet of the cable
	body, _ := talk.Encode(talk.Msg{Kind: talk.Discover, Mac: macOf(0)})
	b := n.udp(0, serviceMac, everybody, 5000, api.LeasePort, body)
	n.entry(api.Hop{Sw: 2, In: 1, Out: 5}, flowOf(t, b), true, true)
	n.Send(0, b)
	n.Move(world.Air, 0)
	n.Move(world.Air, 0)
	n.lens(0, 1, 0) // switch 1 asks about it
	n.Move(world.Up, 0)
	n.Move(world.Down, 0)
	l := n.Frames()
	if len(l) != 1 {
		t.Fatal(l)
	}
	f := world.Frame{To: at(2, 5), Host: -1, Tag: relay.Untagged, Bytes: l[0].Bytes, Service: true}
	n.air(f)
	n.entry(api.Hop{Sw: 2, In: 5, Out: 1}, flowOf(t, f.Bytes), true, true)
	n.Move(world.Air, 0)
	f.To, f.Host, f.Origin, f.Epoch, f.Path, f.Service = at(2, 1), 0, at(2, 5), n.Switch(2).Epoch(), []api.Hop{{Sw: 2, In: 5, Out: 1}}, false
	n.air(f)
}
