package world_test

import (
	"math/rand"
	"slices"
	"testing"

	"ostiary/api"
	"ostiary/audit"
	"ostiary/bind"
	"ostiary/eval"
	"ostiary/flow"
	"ostiary/frame"
	"ostiary/group"
	"ostiary/pol"
	"ostiary/relay"
	"ostiary/route"
	"ostiary/state"
	"ostiary/talk"
	"ostiary/world"
)

// chance is a world to which things befall by chance, and what is asked of it behind each step.
type chance struct {
	*net
	*rand.Rand
	lives [][9]uint32      // of the switches, at each mark
	over  uint32           // frames of epochs below that may not set out any more
	told  []world.Delivery // that no machine reacted to yet
	room  int              // when the state was looked at last
	last  *state.State     // of the controller, as long as it was not dead
	died  bool
	count map[string]int
}

var policies = []string{
	"allow: any -> any;", "outbound: ann -> any; outbound: bob -> eve;", "via 2: any -> any;", "outbound: !bob -> any;",
	"group g = ann, hb; deny: g -> eve; outbound: g -> any; via 1, 3: eve -> !g;", "via 3, 1: ann -> bob; allow: any -> any;", "outbound: any -> ann;",
	"outbound: ann -> any tcp port 1; via 4: eve -> any;", "", "?",
}

// names are all that somebody may have ever.
var names = []string{"ann", "bob", "eve", "zoe", "ha", "hb", "hc", "hd"}

func (c *chance) live() [9]uint32 {
	var l [9]uint32
	for sw := 1; sw <= 8; sw++ {
		l[sw] = c.Switch(sw).Life()
	}
	return l
}

// step does something, and looks at all behind it.
func (c *chance) step(do func()) {
	c.Helper()
	do()
	marks := c.Marks()
	for len(c.lives) < len(marks) {
		c.lives = append(c.lives, c.live())
	}
	for i, m := range marks {
		if i > 0 && (m.Epoch <= marks[i-1].Epoch || m.Step < marks[i-1].Step) {
			c.Fatal("marks", marks)
		}
		if m.Epoch > c.over && c.heard(m.Epoch, c.lives[i]) {
			c.over = m.Epoch
			c.count["over"]++
		}
	}
	for _, d := range c.news() {
		c.delivered(d)
		c.told = append(c.told, d)
	}
	switch x := c.Ctrl(); {
	case x == nil:
	case x.Dead():
		c.died = true
	case x.Room() != c.room:
		c.last, c.room = x.State(), x.Room()
	}
}

// heard: has each switch the epoch, or another life than it had at its mark?
func (c *chance) heard(epoch uint32, lives [9]uint32) bool {
	for sw := 1; sw <= 8; sw++ {
		if c.Switch(sw).Epoch() < epoch && c.Switch(sw).Life() == lives[sw] {
			return false
		}
	}
	return true
}

// delivered: P30.6, P30.7.
func (c *chance) delivered(d world.Delivery) {
	c.Helper()
	if d.Service {
		c.count["service"]++
		return
	}
	f, e := frame.Parse(d.Bytes)
	k, ok := flow.Of(f)
	if e != api.OK || !ok || d.Tag != relay.Untagged {
		c.Fatalf("delivered: %+v", d)
	}
	l := c.Admitted()
	i := slices.IndexFunc(l, func(a world.Admission) bool {
		return a.Epoch == d.Epoch && a.Key == k && a.From == d.Origin && a.To == d.To && a.Step <= d.Step
	})
	if i < 0 {
		c.Fatalf("it was not let in: %+v", d)
	}
	a := l[i]
	if a.Src.At != a.From || a.Src.Mac != k.Src || a.Src.Ip != k.SrcIp || a.Src.User == "" || a.Flow.Src.User != a.Src.User || a.Flow.Src.Host != a.Src.Host {
		c.Fatalf("from nobody: %+v", a)
	}
	if a.Dst.At != a.To || a.Dst.Mac != k.Dst || a.Dst.Ip != k.DstIp || a.Dst.User == "" || a.Flow.Dst.User != a.Dst.User || a.Flow.Dst.Host != a.Dst.Host {
		c.Fatalf("to nobody: %+v", a)
	}
	via := c.allowed(a, l)
	if !slices.Equal(d.Path, a.Path) || len(d.Path) > 64 || !route.Good(linksOf(d.Path), d.Origin, d.To, d.Path, via...) {
		c.Fatalf("by another way: %+v, %+v", d, a)
	}
	c.count["delivered"]++
	c.count["hops"] += len(d.Path) - 1
}

// allowed tells by which switches, if the policy's text, or the way back of what Outbound let in, does.
func (c *chance) allowed(a world.Admission, l []world.Admission) []int {
	c.Helper()
	p, _, _ := pol.Parse(a.Text)
	s, _, e := group.Resolve(p, names...)
	if e != api.OK {
		c.Fatal("no policy", a.Text)
	}
	v := eval.Decide(p, s, eval.Ask{From: a.Flow.Src, To: a.Flow.Dst, Proto: a.Key.Proto, Port: a.Key.Dport})
	if v.Allowed() {
		if v.Act != a.Act || v.Rule != a.Rule {
			c.Fatalf("by another rule: %+v, %+v", a, v)
		}
		return v.Via
	}
	if a.Act != pol.Allow || !slices.ContainsFunc(l, func(o world.Admission) bool {
		return o.Act == pol.Outbound && o.Epoch == a.Epoch && o.Key == flow.Back(a.Key) && o.From == a.To && o.To == a.From && o.Step <= a.Step && o.Rule == a.Rule
	}) {
		c.Fatalf("nobody allows it: %+v", a)
	}
	c.count["back"]++
	return nil
}

func linksOf(path []api.Hop) []api.Link {
	var l []api.Link
	for i := 1; i < len(path); i++ {
		a, b := at(path[i-1].Sw, path[i-1].Out), at(path[i].Sw, path[i].In)
		if !slices.Contains(l, api.Link{A: b, B: a}) {
			l = append(l, api.Link{A: a, B: b})
		}
	}
	return l
}

// move looks at what sets out by it: P30.8.
func (c *chance) move(way, i int) {
	c.Helper()
	before := c.Len(world.Air)
	over := c.over
	c.step(func() {
		if !c.Move(way, i) {
			return
		}
		if way == world.Air {
			before--
		}
	})
	for _, f := range c.Frames()[min(before, c.Len(world.Air)):] {
		if len(f.Path) > 0 && f.Epoch < over {
			c.Fatalf("of an elder epoch than %d: %+v", over, f)
		}
	}
}

// reacts: machines answer what services say.
func (c *chance) reacts() {
	l := c.told
	c.told = nil
	for _, d := range l {
		m, ok := answerOf(d, d.Host)
		if !ok {
			c.replies(d)
			continue
		}
		switch m.Kind {
		case talk.Offer:
			c.says(d.Host, everybody, api.LeasePort, talk.Msg{Kind: talk.Request, Mac: macOf(d.Host), Ip: m.Ip})
		case talk.Granted:
			c.ips[d.Host] = m.Ip
			c.says(d.Host, service, api.AuthPort, talk.Msg{Kind: talk.Hello, User: c.userOf(d.Host)})
		case talk.Challenge:
			c.says(d.Host, service, api.AuthPort, c.proof(talk.Response, d.Host, m.User, m.Nonce))
		case talk.Accept:
			c.count["accepted"]++
		}
	}
}

// replies: the way back, of many frames that came.
func (c *chance) replies(d world.Delivery) {
	f, _ := frame.Parse(d.Bytes)
	if d.Service || c.Intn(3) == 0 {
		return
	}
	f.Src, f.Dst, f.Head.Src, f.Head.Dst = f.Dst, f.Src, f.Head.Dst, f.Head.Src
	f.Ends.Sport, f.Ends.Dport = f.Ends.Dport, f.Ends.Sport
	c.step(func() { c.Send(d.Host, bytesOf(c.T, f)) })
}

func (c *chance) userOf(host int) string { return []string{"ann", "bob", "eve", "ann"}[host%4] }

func (c *chance) says(host int, ip api.Ip, port int, m talk.Msg) {
	b, e := talk.Encode(m)
	c.ok(e)
	c.step(func() { c.Send(host, c.udp(host, serviceMac, ip, 5000, port, b)) })
}

// talks: mostly a true frame, now and then a forged one.
func (c *chance) talks() {
	from, to := c.Intn(4), c.Intn(4)
	b := c.tcp(from, to, 1+c.Intn(2), 1+c.Intn(2), string(rune('a'+c.Intn(20))))
	host := from
	switch c.Intn(12) {
	case 0:
		host = c.Intn(4)
	case 1:
		b[c.Intn(len(b))] ^= 1 << c.Intn(8)
	case 2:
		b = make([]byte, c.Intn(60))
		c.Read(b)
	}
	c.step(func() { c.Send(host, b) })
}

// begins to want an address, or logs out, or gives it back, now and then.
func (c *chance) begins() {
	host := c.Intn(4)
	switch c.Intn(40) {
	case 0:
		c.says(host, service, api.AuthPort, c.proof(talk.Logout, host, c.userOf(host), 1))
	case 1:
		c.says(host, everybody, api.LeasePort, talk.Msg{Kind: talk.Release, Mac: macOf(host), Ip: c.ips[host]})
	case 2:
		c.says(host, service, api.AuthPort, talk.Msg{Kind: talk.Hello, User: c.userOf(c.Intn(3))})
	default:
		c.says(host, everybody, api.LeasePort, talk.Msg{Kind: talk.Discover, Mac: macOf(host)})
	}
}

func (c *chance) place() api.Place { return at(1+c.Intn(4), 1+c.Intn(5)) }

// plugs: what is plugged in is so elsewhere.
func (c *chance) plugs() {
	switch c.Intn(4) {
	case 0:
		c.step(func() { c.Pull(c.place()) })
		c.count["pulls"]++
	case 1:
		c.step(func() { c.Join(c.place(), c.place()) })
	default:
		c.step(func() { c.Attach(c.Intn(4), c.place()) })
	}
}

// befalls: what those do who run it, and what power does.
func (c *chance) befalls() {
	switch k := c.Intn(40); {
	case k < 12:
		c.step(func() { c.Policy(policies[c.Intn(len(policies))]) })
	case k < 14:
		c.step(func() { c.Revoke(names[c.Intn(len(names))]) })
	case k < 18:
		c.step(func() { c.User(names[c.Intn(4)], keyOf(names[c.Intn(4)])) })
	case k < 22:
		host := c.Intn(4)
		c.step(func() { c.Host(nameOf(host), macOf(host)) })
	case k < 26:
		c.room = -1
		c.step(func() { c.Compact() })
	case k < 28:
		c.step(func() { c.Arm(1+c.Intn(8), c.Intn(65), c.Intn(65)) })
	case k < 30:
		c.step(func() { c.Crash(c.Intn(65)) })
	default:
		c.restarts()
	}
}

// restarts, if there is none, or a dead one: P0.4. One that died in the midst of a call may have written some of that call's records.
func (c *chance) restarts() {
	c.Helper()
	if x := c.Ctrl(); x != nil && !x.Dead() {
		return
	}
	c.step(func() { c.Crash() })
	was, died := c.last, c.died
	c.room = -1
	c.step(func() { c.ok(c.Restart()) })
	now := c.Ctrl().State()
	if now.Epoch() <= was.Epoch() || len(c.Ctrl().Bindings()) != 0 {
		c.Fatal("an epoch again", now.Epoch())
	}
	was.Apply(audit.Rec{Kind: audit.Epoch, Epoch: now.Epoch()})
	if !died && !state.Same(now, was) {
		c.Fatalf("%+v, not %+v", now.Recs(0), was.Recs(0))
	}
	c.died = false
	c.count["restarts"]++
}

// anyMove: mostly what set out first comes first.
func (c *chance) anyMove() {
	way, i := c.Intn(3), 0
	if n := c.Len(way); n > 0 && c.Intn(4) == 0 {
		i = c.Intn(n)
	}
	c.move(way, i)
}

func (c *chance) any() {
	switch k := c.Intn(1000); {
	case k < 600:
		for range 5 {
			c.anyMove()
		}
	case k < 605:
		way := c.Intn(3)
		c.step(func() { c.Lose(way, c.Intn(c.Len(way)+1)) })
	case k < 615:
		way := c.Intn(3)
		c.step(func() { c.Twice(way, c.Intn(c.Len(way)+1)) })
	case k < 700:
		c.step(c.Tick)
	case k < 900:
		c.talks()
	case k < 980:
		c.begins()
	case k < 982:
		c.plugs()
	case k < 985:
		c.befalls()
	default:
		c.restarts()
	}
	c.reacts()
}

func (c *chance) set(policy string) {
	c.people(policy, 4)
	for _, l := range [][2]api.Place{{at(1, 5), at(2, 4)}, {at(2, 5), at(3, 4)}, {at(3, 5), at(4, 4)}, {at(4, 5), at(1, 4)}} {
		c.ok(c.Join(l[0], l[1]))
	}
	for host := range 4 {
		c.ok(c.Attach(host, at(1+host, 1)))
	}
	c.last = c.Ctrl().State()
}

func byChance(t *testing.T, seed int64, count map[string]int) *chance {
	s := setup()
	s.Ctrl.Lease, s.Blocks, s.Quiet = 300+seed%3*300, 100+int(seed%4)*130, 15
	if seed%2 == 0 {
		s.Ctrl.Idle, s.Ctrl.Hard = 10, 40
	}
	c := &chance{net: made(t, s), Rand: rand.New(rand.NewSource(seed)), count: count}
	c.set(policies[seed%9])
	for range 2500 {
		c.any()
	}
	return c
}

func TestByChance(t *testing.T) {
	count := map[string]int{}
	for seed := range int64(48) {
		c := byChance(t, seed, count)
		count["marks"] += len(c.Marks())
		count["admitted"] += len(c.Admitted())
		c.silence()
		c.liveness()
	}
	for _, what := range []string{"delivered", "hops", "back", "service", "accepted", "over", "marks", "restarts", "pulls", "came"} {
		if count[what] < 40 {
			t.Error("too few:", what)
		}
	}
	t.Log(count)
}

// silence: P30.10.
func (c *chance) silence() {
	c.Helper()
	c.step(func() { c.Crash() })
	for c.Len(world.Down) > 0 {
		c.step(func() { c.Lose(world.Down, 0) })
	}
	for range 16 {
		c.step(c.Tick)
		for c.Len(world.Up) > 0 {
			c.move(world.Up, 0)
		}
	}
	for c.Len(world.Air) > 0 {
		c.move(world.Air, 0)
	}
	for sw := 1; sw <= 8; sw++ {
		if c.Switch(sw).Open() || len(c.Switch(sw).Entries()) != 0 || c.Switch(sw).Held() != 0 {
			c.Fatal("open", sw)
		}
	}
	was := len(c.Delivered())
	for range 200 {
		c.talks()
		for c.Len(world.Air) > 0 {
			c.move(world.Air, 0)
		}
		for c.Len(world.Up) > 0 {
			c.move(world.Up, 0)
		}
		c.step(c.Tick)
	}
	if len(c.Delivered()) != was {
		c.Fatal("delivered")
	}
	c.restarts()
}

// liveness: P30.9. From now on nothing is lost, and nothing befalls.
func (c *chance) liveness() {
	c.Helper()
	c.Arm(0)
	c.ok(c.Compact())
	for i := range 4 * 20 { // whoever is nowhere, where there is room
		c.Attach(i/20, at(1+i%4, 1+i%20/4))
	}
	c.rounds(40)
	for host := range 4 {
		if c.leases(host).Kind == talk.Granted {
			c.logsIn(host, c.userOf(host))
		}
	}
	c.rounds(20)
	l := c.Ctrl().Bindings()
	for _, a := range l {
		for _, b := range l {
			c.mayCome(a, b)
		}
	}
}

func (c *chance) mayCome(a, b bind.Binding) {
	c.Helper()
	if a.User == "" || b.User == "" || a == b {
		return
	}
	if c.Ctrl().Room() < 30 {
		c.ok(c.Compact())
	}
	v := c.Ctrl().Decide(eval.Ask{From: who(a), To: who(b), Proto: api.Tcp, Port: 2})
	path, e := route.Path(c.Ctrl().Links(), a.At, b.At, v.Via...)
	f := c.tcp(hostOf(a), hostOf(b), 9, 2, "it comes")
	if v.Allowed() && e == api.OK {
		if !c.comes(hostOf(a), hostOf(b), f, len(path)+4) {
			c.Fatalf("it does not come: %+v, %+v, %+v", a, b, path)
		}
		c.count["came"]++
	} else if c.comes(hostOf(a), hostOf(b), f, 5) {
		c.Fatalf("it comes: %+v, %+v", a, b)
	}
}

func who(b bind.Binding) audit.Who { return audit.Who{User: b.User, Host: b.Host} }

func hostOf(b bind.Binding) int { return int(b.Mac - macOf(0)) }
