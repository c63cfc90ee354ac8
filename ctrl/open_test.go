package ctrl_test

import (
	"math"
	"slices"
	"testing"

	"ostiary/api"
	"ostiary/audit"
	"ostiary/block"
	"ostiary/ctl"
	"ostiary/ctrl"
	"ostiary/eval"
	"ostiary/journal"
	"ostiary/pool"
	"ostiary/state"
	"ostiary/talk"
)

func TestExample(t *testing.T) {
	r := made(t, 100, config)
	r.is(r.User("ann", secret("ann"), 100), api.OK)
	r.is(r.Host("h1", 7, 100), api.OK)
	r.joins(1, 1, 1)
	h := host{at: at(1, 1), mac: 7}
	offer := talk.Msg{Kind: talk.Offer, Xid: 7, Mac: 7, Ip: service + 1, Ticks: config.Lease}
	r.says(r.lease(h, discover(h)), r.answers(h, api.LeasePort, offer), r.free(h.at))
}

func TestReserve(t *testing.T) {
	if ctrl.Reserve != 8 {
		t.Error(ctrl.Reserve)
	}
}

// tellsNothing of one that is nil, or dead.
func tellsNothing(t *testing.T, c *ctrl.Ctrl, now int64) {
	t.Helper()
	if !c.Dead() || c.Epoch() != 0 || c.State() != nil || len(c.Flows()) != 0 || len(c.Bindings()) != 0 || len(c.Links()) != 0 || len(c.Waiting()) != 0 || c.Room() != 0 {
		t.Error(c.Dead(), c.Epoch(), c.State(), c.Flows(), c.Bindings(), c.Links(), c.Waiting(), c.Room())
	}
	ask := eval.Ask{From: audit.Who{User: "ann", Host: "ha"}, To: audit.Who{User: "bob", Host: "hb"}, Proto: api.Tcp, Port: 80}
	for _, a := range []eval.Ask{{}, ask} {
		if v := c.Decide(a); !eval.Same(v, eval.None()) {
			t.Error("Decide", v)
		}
	}
	if l, at, e := c.Policy("allow: any -> any;", now); len(l) != 0 || at != 0 || e != api.ErrDown {
		t.Error("Policy", l, at, e)
	}
	if l, at, e := c.Policy("?", now); len(l) != 0 || at != 0 || e != api.ErrDown {
		t.Error("Policy", l, at, e)
	}
	for _, name := range []string{"", "ann", "zoe"} {
		if e := c.User(name, talk.Key{}, now); e != api.ErrDown {
			t.Error("User", e)
		}
		if e := c.Host(name, 9, now); e != api.ErrDown {
			t.Error("Host", e)
		}
		if l, e := c.Revoke(name, now); len(l) != 0 || e != api.ErrDown {
			t.Error("Revoke", l, e)
		}
	}
	if e := c.Compact(now); e != api.ErrDown {
		t.Error("Compact", e)
	}
	for _, now := range []int64{now, now + 7, 700} {
		if l := c.Tick(now); len(l) != 0 {
			t.Error("Tick", l)
		}
	}
	for kind := ctl.Join; kind <= ctl.Seen; kind++ {
		m := ctl.Msg{Kind: kind, Sw: 1, Life: 11}
		switch kind {
		case ctl.Miss:
			m.Port, m.Frame = 1, tcp(t, ha, hb, 4000, 80)
		case ctl.Seen:
			m.Port, m.Peer = 1, at(2, 2)
		}
		if l := c.Handle(m, now); len(l) != 0 || !ctl.May(m) {
			t.Error("Handle", l)
		}
	}
}

// Of a nil controller.
func TestNilController(t *testing.T) {
	for _, now := range []int64{0, 700, -1, api.MaxTime, math.MaxInt64, math.MinInt64} {
		tellsNothing(t, nil, now)
	}
}

// P29.1.

func TestOpen(t *testing.T) {
	for _, now := range []int64{0, 5, api.MaxTime - 1} {
		r := &rig{T: t, d: block.New(100), now: now}
		r.open(config)
		r.wrote(audit.Rec{Kind: audit.Epoch, Epoch: 1})
		if r.Dead() || r.Epoch() != 1 || len(r.Flows()) != 0 || len(r.Bindings()) != 0 || len(r.Links()) != 0 || len(r.Waiting()) != 0 || r.Room() != 48 {
			t.Error(r.Dead(), r.Epoch(), r.Flows(), r.Bindings(), r.Links(), r.Waiting(), r.Room())
		}
		want := state.New()
		want.Apply(audit.Rec{Kind: audit.Epoch, Epoch: 1})
		if !state.Same(r.State(), want) {
			t.Error(r.State().Recs(0))
		}
		if v := r.Decide(eval.Ask{}); !eval.Same(v, eval.None()) {
			t.Error(v)
		}
		now++
		r.again()
		r.wrote(audit.Rec{Kind: audit.Epoch, Epoch: 2})
		if r.Epoch() != 2 {
			t.Error(r.Epoch())
		}
	}
}

// refusesOpen fails unless there is none, by that error.
func refusesOpen(t *testing.T, d *block.Device, c ctrl.Config, now int64, want api.Errno) {
	t.Helper()
	if x, e := ctrl.Open(d, c, now); x != nil || e != want {
		t.Errorf("Open(%+v, %d): %v, %d; not %d", c, now, x, e, want)
	}
}

func TestConfig(t *testing.T) {
	most := int64(65535)
	for _, c := range []struct {
		what   func(*ctrl.Config) *int64
		lo, hi int64
	}{
		{func(c *ctrl.Config) *int64 { return &c.Lease }, 1, 1 << 20},
		{func(c *ctrl.Config) *int64 { return &c.Lock }, 1, most},
		{func(c *ctrl.Config) *int64 { return &c.Retry }, 1, most},
		{func(c *ctrl.Config) *int64 { return &c.Ping }, 1, most},
		{func(c *ctrl.Config) *int64 { return &c.Age }, 1, most},
	} {
		for _, v := range []int64{math.MinInt64, -1, 0, 1, 2, 65535, 65536, 1 << 20, 1<<20 + 1, 1<<32 + 1, math.MaxInt64} {
			x := config
			*c.what(&x) = v
			opens(t, x, v >= c.lo && v <= c.hi)
		}
	}
	for _, c := range []struct {
		what   func(*ctrl.Config) *int
		lo, hi int
	}{
		{func(c *ctrl.Config) *int { return &c.Hosts }, 1, 64},
		{func(c *ctrl.Config) *int { return &c.Idle }, 0, 65535},
		{func(c *ctrl.Config) *int { return &c.Hard }, 0, 65535},
		{func(c *ctrl.Config) *int { return &c.Flows }, 1, 1024},
	} {
		for _, v := range []int{math.MinInt, -1, 0, 1, 2, 64, 65, 1024, 1025, 65535, 65536, 1<<32 + 1, math.MaxInt} {
			x := config
			*c.what(&x) = v
			opens(t, x, v >= c.lo && v <= c.hi)
		}
	}
	for _, m := range []api.Mac{0, 1, api.Anybody - 1, api.Anybody, 1 << 48, math.MaxUint64} {
		x := config
		x.Mac = m
		opens(t, x, m < api.Anybody)
	}
	for _, ip := range []api.Ip{0, math.MaxUint32 - 9, math.MaxUint32 - 8, math.MaxUint32 - 7, math.MaxUint32} {
		x := config
		x.Service = ip
		opens(t, x, ip <= math.MaxUint32-8)
	}
}

func opens(t *testing.T, c ctrl.Config, may bool) {
	t.Helper()
	d := block.New(20)
	if !may {
		refusesOpen(t, d, c, 0, api.ErrArg)
		refusesOpen(t, nil, c, 0, api.ErrArg) // ahead of the journal's error
		if n := len(recordsOf(t, d)); n != 0 {
			t.Error("written", n)
		}
		return
	}
	if x, e := ctrl.Open(d, c, 0); x == nil || e != api.OK {
		t.Errorf("Open(%+v): %v, %d", c, x, e)
	}
}

func TestOpenTimes(t *testing.T) {
	for _, now := range []int64{math.MinInt64, -1, api.MaxTime, api.MaxTime + 1, math.MaxInt64} {
		d := block.New(20)
		refusesOpen(t, d, config, now, api.ErrArg)
		refusesOpen(t, nil, config, now, api.ErrArg)
		if n := len(recordsOf(t, d)); n != 0 {
			t.Error("written", n)
		}
	}
}

func TestOpenWithoutJournal(t *testing.T) {
	refusesOpen(t, nil, config, 0, api.ErrNil)
	for n := range 4 {
		refusesOpen(t, block.New(n), config, 0, api.ErrArg)
	}
	d := block.New(20)
	d.Off()
	refusesOpen(t, d, config, 0, api.ErrDown)
	refusesOpen(t, d, ctrl.Config{}, 0, api.ErrArg)
}

// with is a device with records, the bytes of each.
func with(t *testing.T, blocks int, l ...[]byte) *block.Device {
	t.Helper()
	d := block.New(blocks)
	j, _, e := journal.Open(d)
	for _, b := range l {
		if e == api.OK {
			e = j.Append(b)
		}
	}
	if e != api.OK || j.Sync() != api.OK {
		t.Fatal("no journal", e)
	}
	return d
}

func rec(t *testing.T, x audit.Rec) []byte {
	t.Helper()
	b, e := audit.Encode(x)
	if e != api.OK {
		t.Fatalf("%+v: %d", x, e)
	}
	return b
}

func TestOpenErrForm(t *testing.T) {
	ann := rec(t, audit.Rec{Kind: audit.User, Name: "ann"})
	for _, l := range [][][]byte{
		{nil},
		{{0}},
		{ann[:len(ann)-1]},
		{append(slices.Clone(ann), 0)},
		{ann, []byte("what is it?")},
		{ann, ann},
		{rec(t, audit.Rec{Kind: audit.Epoch})},
		{rec(t, audit.Rec{Kind: audit.Epoch, Epoch: 5}), rec(t, audit.Rec{Kind: audit.Epoch, Epoch: 5})},
		{rec(t, audit.Rec{Kind: audit.User, Name: "allow"})},
		{rec(t, audit.Rec{Kind: audit.Revoke, Name: "ann"})},
		{rec(t, audit.Rec{Kind: audit.Unlet, Mac: 7, Ip: 11}), ann},
	} {
		d := with(t, 40, l...)
		refusesOpen(t, d, config, 0, api.ErrForm)
		refusesOpen(t, d, config, 0, api.ErrForm)
		if _, got, _ := journal.Open(d); len(got) != len(l) {
			t.Error("written", got)
		}
	}
}

// known is a journal in which all is that lasts.
func known() []audit.Rec {
	return []audit.Rec{
		{Kind: audit.Epoch, Epoch: 6},
		{Kind: audit.User, Name: "ann", A: secret("ann").A, B: secret("ann").B},
		{Kind: audit.User, Name: "zoe"},
		{Kind: audit.Host, Name: "ha", Mac: ha.mac},
		{Kind: audit.Host, Name: "hb", Mac: hb.mac},
		{Kind: audit.Host, Name: "hc", Mac: hc.mac},
		{Kind: audit.Policy, Text: "group g = ha, zoe; allow: ann -> g tcp;"},
		{Kind: audit.Lease, Mac: ha.mac, Ip: service + 3, Until: 5000},
		{Kind: audit.Lease, Mac: hb.mac, Ip: service + 9, Until: 5000}, // none of the pool's
		{Kind: audit.Lease, Mac: 0xEE, Ip: service + 1, Until: 101},
		{Kind: audit.Revoke, Name: "zoe"},
		{Kind: audit.Login, Name: "ann", Mac: ha.mac, Ip: service + 3, From: ha.at},
		{Kind: audit.Logoff, Name: "bob", Why: 3},
		{Kind: audit.Deny, Why: 3, From: ha.at},
	}
}

func opened(t *testing.T, l []audit.Rec) *rig {
	t.Helper()
	var all [][]byte
	for _, x := range l {
		all = append(all, rec(t, x))
	}
	r := &rig{T: t, d: with(t, 200, all...), now: 100, recs: len(l)}
	r.open(config)
	return r
}

func TestOpenAgain(t *testing.T) {
	r := opened(t, known())
	r.wrote(audit.Rec{Kind: audit.Epoch, Epoch: 7})
	want := state.New()
	for _, x := range r.records() {
		want.Apply(x)
	}
	if s := r.State(); !state.Same(s, want) || s.Epoch() != 7 || len(s.Leases()) != 3 {
		t.Error(s.Recs(0))
	}
	if len(r.Bindings()) != 0 || len(r.Flows()) != 0 {
		t.Error("bound, or let in", r.Bindings(), r.Flows())
	}
	ask := eval.Ask{From: audit.Who{User: "ann", Host: "hb"}, To: audit.Who{User: "ann", Host: "ha"}, Proto: api.Tcp}
	if v := r.Decide(ask); !eval.Same(v, eval.Verdict{Act: 1}) {
		t.Error("the policy", v)
	}
	r.is(r.User("g", talk.Key{}, r.now), api.ErrThere)
	r.is(r.User("zoe", talk.Key{}, r.now), api.ErrState)
	r.is(r.User("ann", talk.Key{}, r.now), api.ErrThere)
	r.joins(1, 1, 255)
	mine := ha
	mine.ip = service + 3
	r.says(r.lease(ha, discover(ha)), r.answers(ha, api.LeasePort, talk.Msg{Kind: talk.Offer, Xid: 7, Mac: ha.mac, Ip: mine.ip, Ticks: config.Lease}), r.free(ha.at))
	r.leases(mine)
	r.logsIn(mine, "ann")
	other := host{at(1, 2), hb.mac, service + 1, "hb"}
	r.says(r.lease(other, request(other)), r.answers(other, api.LeasePort, refused(other, 8, api.ErrThere)), r.free(other.at))
	r.now = 101 // that one's time is over
	r.passes()
	r.says(r.Tick(r.now))
	r.wrote(audit.Rec{Kind: audit.Unlet, Mac: 0xEE, Ip: service + 1})
	if l := r.State().Leases(); !slices.Equal(l, []pool.Lease{{Mac: ha.mac, Ip: service + 3, Until: 1100}, {Mac: hb.mac, Ip: service + 9, Until: 5000}}) {
		t.Error(l)
	}
	r.leases(other)
}

// A journal of a policy that no one could have put in: nobody may do anything, till it means something.
func TestOpenOfOtherPolicies(t *testing.T) {
	hosts := []audit.Rec{{Kind: audit.Host, Name: "ha", Mac: 1}, {Kind: audit.User, Name: "bob"}}
	everybody := eval.Ask{From: audit.Who{User: "bob", Host: "ha"}, To: audit.Who{User: "bob", Host: "ha"}}
	for _, text := range []string{"allow", "allow: any -> any; ?", "\xff\x00", "group g = g; allow: any -> any;", "group ha = bob; allow: any -> any;", "allow: any -> !ann;"} {
		r := opened(t, append(hosts, audit.Rec{Kind: audit.Policy, Text: text}))
		if v := r.Decide(everybody); !eval.Same(v, eval.None()) || r.State().Policy() != text {
			t.Error(text, v, r.State().Policy())
		}
	}
	r := opened(t, append(hosts, audit.Rec{Kind: audit.Policy, Text: "group g = bob; allow: any -> !ann;"}))
	r.is(r.User("g", talk.Key{}, r.now), api.ErrThere)
	r.is(r.User("ann", talk.Key{}, r.now), api.OK)
	if v := r.Decide(everybody); !eval.Same(v, eval.Verdict{Act: 1}) {
		t.Error(v)
	}
}

// full is a journal that has no block left: records that lead to nothing stand behind others.
func full(t *testing.T, blocks int, l ...audit.Rec) *block.Device {
	t.Helper()
	var all [][]byte
	for _, x := range l {
		all = append(all, rec(t, x))
	}
	j, _, _ := journal.Open(with(t, blocks, all...))
	for range j.Room() {
		all = append(all, rec(t, audit.Rec{Kind: audit.Logoff, Name: "eve"}))
	}
	return with(t, blocks, all...)
}

func TestOpenOfAFullJournal(t *testing.T) {
	l := []audit.Rec{{Kind: audit.Epoch, Epoch: 4}, {Kind: audit.User, Name: "ann", A: 5}, {Kind: audit.User, Name: "bob"}, {Kind: audit.Revoke, Name: "bob"}}
	r := &rig{T: t, d: full(t, 22, l...), now: 50}
	r.open(config)
	r.wrote(audit.Rec{Kind: audit.Epoch, Epoch: 5}, audit.Rec{Kind: audit.User, Name: "bob"}, l[3], l[1])
	if r.Epoch() != 5 || r.Room() != 6 || len(r.State().Users()) != 1 {
		t.Error(r.Epoch(), r.Room(), r.State().Users())
	}
	r.again()
	r.wrote(audit.Rec{Kind: audit.Epoch, Epoch: 6})
}

// A journal in which not even what counts has room.
func TestOpenWithoutRoom(t *testing.T) {
	d := full(t, 4, audit.Rec{Kind: audit.Host, Name: "ha", Mac: 5})
	refusesOpen(t, d, config, 0, api.ErrFull)
	if n := len(recordsOf(t, d)); n != 1 {
		t.Error("written", n)
	}
	d = full(t, 6, audit.Rec{Kind: audit.Host, Name: "ha", Mac: 5}, audit.Rec{Kind: audit.Host, Name: "hb", Mac: 6})
	refusesOpen(t, d, config, 0, api.ErrFull)
	r := &rig{T: t, d: full(t, 6, audit.Rec{Kind: audit.Host, Name: "ha", Mac: 5})}
	r.open(config)
	r.wrote(audit.Rec{Kind: audit.Epoch, Epoch: 1}, audit.Rec{Kind: audit.Host, Name: "ha", Mac: 5})
}

func TestOpenOfTheLastEpoch(t *testing.T) {
	last := audit.Rec{Kind: audit.Epoch, Epoch: math.MaxUint32}
	refusesOpen(t, with(t, 20, rec(t, last)), config, 0, api.ErrStale)
	refusesOpen(t, full(t, 20, last), config, 0, api.ErrStale)
	last.Epoch--
	r := &rig{T: t, d: with(t, 20, rec(t, last)), recs: 1}
	r.open(config)
	r.wrote(audit.Rec{Kind: audit.Epoch, Epoch: math.MaxUint32})
	l, e := r.Revoke("ann", 0)
	r.refuses(api.ErrNone)(l, e)
	r.is(r.User("ann", talk.Key{}, 0), api.ErrFull) // no block more than the reserve is left
	if r.Dead() {
		t.Error("dead")
	}
}

// The power goes in the midst of it, wherever that is.
func TestOpenPower(t *testing.T) {
	for _, keep := range [][]int{nil, {64}, {7, 64, 20}} {
		for acts := 1; acts <= 2; acts++ {
			d := with(t, 20, rec(t, audit.Rec{Kind: audit.Epoch, Epoch: 4}))
			d.Arm(acts, keep...)
			refusesOpen(t, d, config, 9, api.ErrDown)
			d.On()
			r := &rig{T: t, d: d, now: 10}
			r.open(config)
			if e := r.Epoch(); e != 5 && e != 6 {
				t.Error(e)
			}
		}
		for acts := 1; acts <= 20; acts++ {
			l := []audit.Rec{{Kind: audit.Epoch, Epoch: 4}, {Kind: audit.User, Name: "ann", A: 5}}
			d := full(t, 12, l...)
			d.Arm(acts, keep...)
			_, e := ctrl.Open(d, config, 9)
			if e != api.OK && e != api.ErrDown {
				t.Error(e)
			}
			d.On()
			r := &rig{T: t, d: d, now: 10}
			r.open(config)
			if r.Epoch() < 5 || len(r.State().Users()) != 1 {
				t.Error(r.Epoch(), r.State().Users())
			}
		}
	}
}

// The rules that hold everywhere: what is answered is the caller's own.
func TestAnswersAreCopies(t *testing.T) {
	r := home(t, "allow: any -> any;")
	r.lets(ha.at, tcp(t, ha, hb, 1, 2))
	look := func() [4]string {
		return [4]string{show(r.Flows()), show(r.Bindings()), show(r.Links()), show(r.Waiting())}
	}
	was, recs := look(), r.State().Recs(0)
	f := r.Flows()
	f[0].Path[0].Sw, f[0].Key.Src = 8, 9
	b := r.Bindings()
	b[0].User, b = "eve", append(b[:1], b[0])
	l := r.Links()
	l[0].A.Sw, l = 9, append(l[:1], api.Link{})
	w := r.Waiting()
	w[0] = 900
	if is := look(); is != was {
		t.Error(is, was)
	}
	s := r.State()
	s.Apply(audit.Rec{Kind: audit.Revoke, Name: "ann"})
	s.Apply(audit.Rec{Kind: audit.Epoch, Epoch: 9000})
	if now := r.State().Recs(0); !slices.EqualFunc(now, recs, audit.Same) || r.Epoch() == 9000 {
		t.Error(now)
	}
}

// What is handed in is not kept.
func TestNothingHandedInIsKept(t *testing.T) {
	r := home(t, "allow: any -> any;")
	b := tcp(t, ha, hb, 1, 2)
	m := ctl.Msg{Kind: ctl.Miss, Sw: 1, Life: 11, Port: 1, Frame: slices.Clone(b)}
	r.Handle(m, r.now)
	if !slices.Equal(m.Frame, b) {
		t.Error("changed")
	}
	clear(m.Frame)
	if l := r.Flows(); len(l) != 1 || l[0].Key != keyOf(t, b) {
		t.Error(l)
	}
}
