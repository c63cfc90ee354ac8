package ctrl_test

import (
	"math/rand"
	"slices"
	"testing"

	"ostiary/api"
	"ostiary/audit"
	"ostiary/bind"
	"ostiary/block"
	"ostiary/ctl"
	"ostiary/ctrl"
	"ostiary/eval"
	"ostiary/flow"
	"ostiary/group"
	"ostiary/ledger"
	"ostiary/pol"
	"ostiary/route"
	"ostiary/state"
	"ostiary/talk"
)

// chance is a controller to which things happen by chance, and all that is known of it from outside.
type chance struct {
	*rand.Rand
	*rig
	set    ctrl.Config
	wrote  []audit.Rec // all that the journal had behind the last call
	epoch  uint32      // the greatest one that was said ever
	said   []ctl.Msg   // that may be told as done
	nonces map[string]uint64
	seen   map[uint64]bool // numbers that were told
	count  map[string]int
	room   int // that of what was written
	admits map[admit][]api.Hop
}

// admit is a flow that was written down.
type admit struct {
	epoch uint32
	key   api.Key
}

var policies = []string{
	"", "allow: any -> any;", "allow: ann -> bob; outbound: bob -> eve;", "outbound: any -> any;", "via 2: any -> any;",
	"group g = ann, hb; deny: g -> eve; outbound: g -> any; via 1, 3: eve -> !g;", "allow: any -> any tcp port 1-2;", "via 4: ann -> bob; allow: any -> any;",
	"outbound: ann -> any; outbound: bob -> eve;", "outbound: any -> ann;", "?",
}

func (c *chance) open(keep ...int) {
	c.Helper()
	c.d.Off(keep...)
	c.d.On()
	was := c.wrote
	x, e := ctrl.Open(c.d, c.set, c.now)
	if e != api.OK {
		c.Fatal("Open", e)
	}
	c.Ctrl, c.life, c.said = x, [9]uint32{}, nil
	all := c.records()
	if len(all) > len(was) || len(was) == 0 { // else it was written anew, for want of room
		for i, r := range was {
			if !audit.Same(r, all[i]) {
				c.Fatalf("record %d is %+v, not %+v", i, all[i], r)
			}
		}
	}
	if x.Epoch() <= c.epoch {
		c.Fatal("an epoch again", x.Epoch(), c.epoch)
	}
	c.wrote, c.room = all, x.Room()
	c.same()
	if len(x.Bindings()) != 0 || len(x.Flows()) != 0 {
		c.Fatal("somebody is there")
	}
}

// same: the state is what the records lead to.
func (c *chance) same() {
	c.Helper()
	s := state.New()
	for _, r := range c.records() {
		if e := s.Apply(r); e != api.OK {
			c.Fatalf("refused %+v: %d", r, e)
		}
	}
	if !state.Same(s, c.State()) {
		c.Fatalf("%+v, not %+v", c.State().Recs(0), s.Recs(0))
	}
}

// after looks at all behind a call, and at what was said.
func (c *chance) after(l []ctl.Msg) {
	c.Helper()
	if c.Dead() {
		if len(l) != 0 {
			c.Fatal("said by one that is dead", l)
		}
		c.count["dead"]++
		c.open(64, 0, 7)
		return
	}
	if c.d.Pending() != 0 {
		c.Fatal("something is not synced")
	}
	if c.room != c.Room() { // else nothing was written
		c.wrote, c.room = c.records(), c.Room()
		c.same()
	}
	for _, m := range l {
		if !ctl.May(m) || ctl.Up(m.Kind) || m.Life != c.life[m.Sw] || m.Epoch > c.Epoch() {
			c.Fatal("said", m)
		}
		c.epoch = max(c.epoch, m.Epoch)
		if m.Kind == ctl.Add {
			c.written(m)
			c.said = append(c.said, m)
		}
	}
	for _, f := range c.Flows() {
		c.stands(f)
	}
	c.count["flows"] += len(c.Flows())
}

// written: P29.9. (A Compact ahead of it has thrown the record away.)
func (c *chance) written(m ctl.Msg) {
	c.Helper()
	for _, r := range c.wrote {
		if r.Kind == audit.Admit {
			c.admits[admit{r.Epoch, r.Key}] = r.Path
		}
	}
	if !slices.Contains(c.admits[admit{m.Epoch, m.Key}], api.Hop{Sw: m.Sw, In: m.Port, Out: m.Out}) {
		c.Fatalf("not written down: %+v", m)
	}
}

// stands: P29.11.
func (c *chance) stands(f ledger.Flow) {
	c.Helper()
	src, dst := c.whoIs(f.From), c.whoIs(f.To)
	if src.Mac != f.Key.Src || src.Ip != f.Key.SrcIp || src.User != f.Src.User || src.Host != f.Src.Host || src.User == "" {
		c.Fatalf("%+v is not from %+v", f, src)
	}
	if dst.Mac != f.Key.Dst || dst.Ip != f.Key.DstIp || dst.User != f.Dst.User || dst.Host != f.Dst.Host || dst.User == "" {
		c.Fatalf("%+v is not to %+v", f, dst)
	}
	if f.Epoch != c.Epoch() {
		c.Fatal("of another epoch", f)
	}
	v := c.means(eval.Ask{From: f.Src, To: f.Dst, Proto: f.Key.Proto, Port: f.Key.Dport})
	back := slices.ContainsFunc(c.Flows(), func(o ledger.Flow) bool {
		return o.Act == pol.Outbound && flow.Back(o.Key) == f.Key && o.From == f.To && o.To == f.From && o.Rule == f.Rule
	})
	switch {
	case v.Allowed() && v.Act == f.Act && v.Rule == f.Rule:
		c.count["allowed"]++
	case back && f.Act == pol.Allow && !v.Allowed():
		c.count["back"]++
	default:
		c.Fatalf("%+v is not allowed: %+v", f, v)
	}
	via := v.Via
	if !v.Allowed() {
		via = nil
	}
	if !route.Good(c.Links(), f.From, f.To, f.Path, via...) {
		c.Fatalf("no good path: %+v by %v on %v", f, via, c.Links())
	}
}

// means is what the text says, read and asked anew.
func (c *chance) means(a eval.Ask) eval.Verdict {
	s := c.State()
	p, _, _ := pol.Parse(s.Policy())
	sets, _, e := group.Resolve(p, slices.Concat(s.Users(), s.Hosts(), s.Revoked())...)
	if e != api.OK || !slices.Contains(s.Users(), a.From.User) || !slices.Contains(s.Hosts(), a.From.Host) || !slices.Contains(s.Users(), a.To.User) || !slices.Contains(s.Hosts(), a.To.Host) {
		return eval.None()
	}
	return eval.Decide(p, sets, a)
}

func (c *chance) whoIs(p api.Place) bind.Binding {
	l := c.Bindings()
	i := slices.IndexFunc(l, func(b bind.Binding) bool { return b.At == p })
	if i < 0 {
		return bind.Binding{}
	}
	return l[i]
}

func (c *chance) place() api.Place { return at(1+c.Intn(3), 1+c.Intn(3)) }

// someone is a machine, mostly at its own port and with its own address.
func (c *chance) someone() host {
	h := []host{ha, hb, hc}[c.Intn(3)]
	for _, b := range c.Bindings() {
		if b.Mac == h.mac {
			h.at, h.ip = b.At, b.Ip
		}
	}
	if c.Intn(12) == 0 {
		h.at = c.place()
	}
	if c.Intn(12) == 0 {
		h.ip = service + api.Ip(c.Intn(5))
	}
	if c.Intn(20) == 0 {
		h.mac = []host{ha, hb, hc}[c.Intn(3)].mac
	}
	return h
}

func (c *chance) user() string { return []string{"ann", "bob", "eve", "zoe"}[c.Intn(4)] }

// wire: a probe comes through, mostly one of the row's links.
func (c *chance) wire() []ctl.Msg {
	links := [][2]api.Place{{at(1, 8), at(2, 7)}, {at(2, 8), at(3, 7)}, {at(1, 6), at(3, 6)}}
	if c.Intn(15) == 0 {
		return c.see(at(1+c.Intn(3), 1+c.Intn(8)), at(1+c.Intn(3), 1+c.Intn(8)))
	}
	l := links[c.Intn(3)]
	return c.see(l[c.Intn(2)], l[1])
}

func (c *chance) ports() int {
	if c.Intn(4) > 0 {
		return 255
	}
	return 255 &^ (1 << c.Intn(8))
}

func (c *chance) join() []ctl.Msg {
	sw := 1 + c.Intn(3)
	life := c.life[sw]
	if life == 0 || c.Intn(5) == 0 {
		life++
	}
	c.life[sw] = life
	return c.Handle(ctl.Msg{Kind: ctl.Join, Sw: sw, Life: life, Ports: c.ports()}, c.now)
}

func (c *chance) leasing() []ctl.Msg {
	h := c.someone()
	switch c.Intn(20) {
	case 0:
		return c.lease(h, release(h))
	case 1, 2, 3:
		return c.lease(h, discover(h))
	}
	if !slices.ContainsFunc(c.Bindings(), func(b bind.Binding) bool { return b.Mac == h.mac }) || c.Intn(5) == 0 {
		h.ip = service + 1 + api.Ip(h.mac-ha.mac)
		if c.Intn(8) == 0 {
			h.ip = service + api.Ip(c.Intn(6))
		}
		return c.lease(h, request(h))
	}
	return nil
}

// login: mostly each user at his own machine, if nobody is there; now and then the answer comes later, or is a wrong one.
func (c *chance) login() []ctl.Msg {
	h := c.someone()
	name := []string{"ann", "bob", "eve"}[(h.mac-ha.mac)%3]
	if c.Intn(15) == 0 {
		name = c.user()
	}
	at := show(h) + name
	n, ok := c.nonces[at]
	switch {
	case c.Intn(40) == 0:
		return c.auth(h, proof(h, talk.Logout, name, c.Uint64()))
	case !ok && c.whoIs(h.at).User == name && c.Intn(20) > 0:
		return nil
	case !ok:
		l := c.auth(h, hello(name))
		c.after(l)
		if c.Dead() || len(l) != 2 || c.told(l).Kind != talk.Challenge {
			return nil
		}
		n = c.told(l).Nonce
		if c.seen[n] {
			c.Fatal("a number again", n)
		}
		c.seen[n], c.nonces[at] = true, n
		if c.Intn(4) == 0 {
			return nil
		}
	}
	delete(c.nonces, at)
	m := proof(h, talk.Response, name, n)
	if c.Intn(20) == 0 {
		m.Tag ^= 1 << c.Intn(64)
	}
	return c.auth(h, m)
}

// talks: now and then somebody answers.
func (c *chance) talks() []ctl.Msg {
	from, to := c.someone(), c.someone()
	ports := [2]int{1 + c.Intn(3), 1 + c.Intn(3)}
	if l := c.Flows(); len(l) > 0 && c.Intn(3) == 0 {
		f := l[c.Intn(len(l))]
		from, to = host{f.To, f.Key.Dst, f.Key.DstIp, ""}, host{f.From, f.Key.Src, f.Key.SrcIp, ""}
		ports = [2]int{f.Key.Dport, f.Key.Sport}
	}
	return c.misses(from.at, tcp(c.T, from, to, ports[0], ports[1]))
}

func (c *chance) finishes() []ctl.Msg {
	if len(c.said) == 0 {
		return nil
	}
	m := c.said[max(0, len(c.said)-1-c.Intn(5))]
	return c.does(m)
}

// step is one thing that befalls.
func (c *chance) step() []ctl.Msg {
	switch k := c.Intn(100); {
	case k < 2:
		return c.join()
	case k < 3:
		return c.changes(1+c.Intn(3), c.ports())
	case k < 20:
		return c.wire()
	case k < 35:
		return c.leasing()
	case k < 60:
		return c.login()
	case k < 80:
		return c.talks()
	case k < 87:
		return c.finishes()
	case k < 97:
		c.now += c.Int63n(4)
		return c.Tick(c.now)
	}
	return c.runs()
}

// runs is what those do who run it.
func (c *chance) runs() []ctl.Msg {
	var l []ctl.Msg
	switch k := c.Intn(40); {
	case k < 14:
		l, _, _ = c.Policy(policies[c.Intn(len(policies))], c.now)
	case k < 18:
		l, _ = c.Revoke([]string{"ann", "bob", "eve", "ha", "hb", "zoe"}[c.Intn(6)], c.now)
	case k < 24:
		c.User(c.user(), secret(c.user()), c.now)
	case k < 28:
		c.Host("h"+string(rune('a'+c.Intn(4))), ha.mac+api.Mac(c.Intn(4)), c.now)
	case k < 32:
		if c.Compact(c.now) == api.OK {
			c.room = -1
			c.count["compacts"]++
		}
	case k < 35:
		c.count["powers"]++
		c.open(c.Intn(65))
	case k < 38:
		c.d.Arm(1+c.Intn(6), c.Intn(65), c.Intn(65))
	}
	return l
}

func TestByChance(t *testing.T) {
	count := map[string]int{}
	for seed := range int64(60) {
		set := config
		set.Lease, set.Age = 60+seed%3*100, 60
		c := &chance{
			Rand: rand.New(rand.NewSource(seed)), rig: &rig{T: t, now: 5, d: block.New(80 + int(seed%5)*100)},
			set: set, nonces: map[string]uint64{}, seen: map[uint64]bool{}, count: count, admits: map[admit][]api.Hop{},
		}
		c.open()
		for _, name := range []string{"ann", "bob", "eve"} {
			c.User(name, secret(name), c.now)
		}
		for _, h := range []host{ha, hb, hc} {
			c.Host(h.name, h.mac, c.now)
		}
		c.Policy(policies[1+seed%9], c.now)
		for range 600 {
			c.after(c.step())
		}
	}
	for _, what := range []string{"allowed", "back", "dead", "powers", "compacts"} {
		if count[what] < 50 {
			t.Error("too few:", what, count)
		}
	}
	t.Log(count)
}
