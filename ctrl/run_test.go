package ctrl_test

import (
	"math"
	"strconv"
	"strings"
	"testing"

	"ostiary/api"
	"ostiary/audit"
	"ostiary/bind"
	"ostiary/bits"
	"ostiary/block"
	"ostiary/ctl"
	"ostiary/eval"
	"ostiary/state"
	"ostiary/sum"
	"ostiary/talk"
)

// P29.2.

func (r *rig) policy(text string, place int, e api.Errno) {
	r.Helper()
	r.passes()
	was := r.State()
	l, gotPlace, got := r.Policy(text, r.now)
	if len(l) != 0 || gotPlace != place || got != e {
		r.Errorf("%q: %+v, %d, %d; not %d, %d", text, l, gotPlace, got, place, e)
	}
	r.wrote()
	if !state.Same(r.State(), was) {
		r.Error("changed", r.State().Recs(0))
	}
}

func TestPolicyErrors(t *testing.T) {
	r := home(t, "allow: ann -> bob;")
	r.lets(ha.at, tcp(t, ha, hb, 1, 2))
	long := "allow: any -> any; #" + strings.Repeat("x", 780)
	for _, c := range []struct {
		text  string
		place int
		e     api.Errno
	}{
		{long + "x", 0, api.ErrLong},
		{"?" + strings.Repeat(" ", 800), 0, api.ErrLong}, // ahead of what it says
		{strings.Repeat("x", 5000), 0, api.ErrLong},
		{"?", 0, api.ErrSyntax},
		{"allow: any -> any; ?", 19, api.ErrSyntax},
		{"allow: any", 10, api.ErrSyntax},
		{"via 9: any -> any;", 4, api.ErrRange},
		{"group g = ann; group g = bob;", 21, api.ErrThere},
		{"allow: abcdefghijklmnopq -> any;", 7, api.ErrLong},
		{"allow: zoe -> any;", 0, api.ErrName},
		{"group ann = bob;", 0, api.ErrThere},
		{"group ha = bob;", 0, api.ErrThere},
		{"group g = g;", 0, api.ErrCycle},
	} {
		r.policy(c.text, c.place, c.e)
	}
	if len(r.Flows()) != 1 || r.Epoch() != 2 {
		t.Error("an epoch began", r.Epoch())
	}
	if len(long) != 800 {
		t.Error(len(long))
	}
	r.rules(long)
	r.rules(long)
	r.rules("")
}

func TestPolicy(t *testing.T) {
	r := home(t, "allow: ann -> bob;")
	r.lets(ha.at, tcp(t, ha, hb, 1, 2))
	ask := eval.Ask{From: audit.Who{User: "bob", Host: "hb"}, To: audit.Who{User: "ann", Host: "ha"}, Proto: api.Tcp, Port: 80}
	if v := r.Decide(ask); !eval.Same(v, eval.None()) {
		t.Error(v)
	}
	r.now++
	epoch := r.Epoch()
	r.rules("deny: eve -> any; via 2, 3: any -> any tcp port 80;")
	if r.Epoch() != epoch+1 || len(r.Flows()) != 0 || len(r.Waiting()) != 0 || len(r.Bindings()) != 3 {
		t.Error(r.Epoch(), r.Flows(), r.Waiting(), r.Bindings())
	}
	if v := r.Decide(ask); !eval.Same(v, eval.Verdict{Act: 4, Rule: 1, Via: []int{2, 3}}) {
		t.Error(v)
	}
	ask.From = audit.Who{User: "zoe", Host: "hb"}
	if v := r.Decide(ask); !eval.Same(v, eval.None()) {
		t.Error("nobody knows her", v)
	}
}

// Who was revoked may be named still.
func TestPolicyOfRevoked(t *testing.T) {
	r := net(t, 200)
	r.rules("group g = eve, ann; allow: g & !eve -> hc;")
	for _, name := range []string{"eve", "hc"} {
		r.says(r.revoked(name), r.flushes()...)
	}
	r.rules("group g = eve, ann; allow: g & !eve -> !hc;")
	ask := eval.Ask{From: audit.Who{User: "ann", Host: "ha"}, To: audit.Who{User: "bob", Host: "hb"}}
	if v := r.Decide(ask); !v.Allowed() {
		t.Error(v)
	}
	r.policy("group eve = ann;", 0, api.ErrThere)
	ask.From.User = "eve"
	if v := r.Decide(ask); !eval.Same(v, eval.None()) {
		t.Error(v)
	}
}

func TestPolicyErrArg(t *testing.T) {
	r := made(t, 100, config)
	r.passes()
	for _, now := range []int64{-1, api.MaxTime, math.MaxInt64} {
		if l, place, e := r.Policy("", now); len(l) != 0 || place != 0 || e != api.ErrArg {
			t.Error(l, place, e)
		}
		r.is(r.User("ann", talk.Key{}, now), api.ErrArg)
		r.is(r.Host("ha", 7, now), api.ErrArg)
		r.is(r.Compact(now), api.ErrArg)
		l, e := r.Revoke("ann", now)
		r.refuses(api.ErrArg)(l, e)
	}
	r.wrote()
	if r.Dead() {
		t.Error("dead")
	}
}

func TestUser(t *testing.T) {
	r := made(t, 200, config)
	r.rules("")
	r.is(r.User("ann", secret("ann"), r.now), api.OK)
	r.wrote(audit.Rec{Kind: audit.User, Name: "ann", A: secret("ann").A, B: secret("ann").B})
	r.is(r.Host("ha", ha.mac, r.now), api.OK)
	r.wrote(audit.Rec{Kind: audit.Host, Name: "ha", Mac: ha.mac})
	r.rules("group g = ann; allow: any -> !g;")
	if l := r.State().Users(); len(l) != 1 || l[0] != "ann" {
		t.Error(l)
	}
	for _, c := range []struct {
		name string
		e    api.Errno
	}{
		{"", api.ErrArg}, {"Ann", api.ErrArg}, {"1a", api.ErrArg}, {"abcdefghi", api.ErrArg}, {"any", api.ErrArg},
		{"g", api.ErrThere}, {"ann", api.ErrThere}, {"ha", api.ErrThere},
	} {
		r.is(r.User(c.name, talk.Key{}, r.now), c.e)
		r.is(r.Host(c.name, 77, r.now), c.e)
	}
	r.is(r.Host("hb", ha.mac, r.now), api.ErrThere)
	r.is(r.Host("hb", api.Anybody, r.now), api.ErrArg)
	r.is(r.Host("hb", 1<<48, r.now), api.ErrArg)
	r.wrote()
	if r.Epoch() != 3 {
		t.Error("an epoch began")
	}
	// the policy is for those who come, too
	bob := audit.Who{User: "bob", Host: "hb"}
	ask := eval.Ask{From: audit.Who{User: "ann", Host: "ha"}, To: bob}
	if r.Decide(ask).Allowed() {
		t.Error("nobody knows him")
	}
	r.is(r.User("bob", secret("bob"), r.now), api.OK)
	if r.Decide(ask).Allowed() {
		t.Error("nobody knows his machine")
	}
	r.is(r.Host("hb", hb.mac, r.now), api.OK)
	if !r.Decide(ask).Allowed() {
		t.Error("nobody asked for him")
	}
	r.wrote(audit.Rec{Kind: audit.User, Name: "bob", A: secret("bob").A, B: secret("bob").B}, audit.Rec{Kind: audit.Host, Name: "hb", Mac: hb.mac})
	// the name of a group that is no more may be somebody's
	r.rules("")
	r.is(r.User("g", talk.Key{}, r.now), api.OK)
}

func TestRoomForUsersAndMachines(t *testing.T) {
	r := made(t, 300, config)
	for i := range 16 {
		r.is(r.User("u"+strconv.Itoa(i), talk.Key{}, r.now), api.OK)
		r.is(r.Host("h"+strconv.Itoa(i), api.Mac(i), r.now), api.OK)
	}
	r.passes()
	r.is(r.User("ann", talk.Key{}, r.now), api.ErrFull)
	r.is(r.Host("ha", 99, r.now), api.ErrFull)
	r.wrote()
	r.rules("allow: u0 -> u15; allow: h15 -> h0;")
	r.says(r.revoked("u0"), r.flushes()...)
	r.is(r.User("ann", talk.Key{}, r.now), api.OK)
}

func (r *rig) revoked(name string) []ctl.Msg {
	r.Helper()
	l, e := r.Revoke(name, r.now)
	r.is(e, api.OK)
	return l
}

func TestRevokeUser(t *testing.T) {
	r := home(t, "allow: any -> any;")
	r.logsIn(hc, "ann")
	r.lets(ha.at, tcp(t, ha, hb, 1, 2))
	r.challenged(hb, "ann")
	r.now++
	l := r.revoked("ann")
	r.says(l, r.flushes()...)
	r.wrote(audit.Rec{Kind: audit.Revoke, Name: "ann"}, logoff("ann", api.ErrAuth), logoff("ann", api.ErrAuth), r.epoch())
	if len(r.Flows()) != 0 || len(r.Waiting()) != 0 || r.Epoch() != 3 {
		t.Error(r.Flows(), r.Waiting(), r.Epoch())
	}
	r.binds(bound(ha, "", 1100), bound(hb, "bob", 1100), bound(hc, "", 1100))
	for _, h := range []host{ha, hb} {
		hello := r.auth(h, talk.Msg{Kind: talk.Hello, User: "ann"})
		r.says(hello, r.answers(h, api.AuthPort, talk.Msg{Kind: talk.Reject, User: "ann", Why: int(api.ErrAuth)}), r.free(h.at))
	}
	r.denies(ha.at, tcp(t, ha, hb, 1, 2), api.ErrAuth)
	r.is(r.User("ann", secret("ann"), r.now), api.ErrState)
	l, e := r.Revoke("ann", r.now)
	r.refuses(api.ErrNone)(l, e)
	r.passes()
	r.wrote()
	if r.Decide(eval.Ask{From: audit.Who{User: "ann", Host: "ha"}, To: audit.Who{User: "bob", Host: "hb"}}).Allowed() {
		t.Error("she may do something")
	}
}

func TestRevokeMachine(t *testing.T) {
	r := home(t, "allow: any -> any;")
	r.now++
	r.says(r.revoked("ha"), r.flushes()...)
	r.wrote(audit.Rec{Kind: audit.Revoke, Name: "ha"}, logoff("ann", api.ErrAuth), r.epoch())
	r.binds(bound(hb, "bob", 1100), bound(hc, "", 1100))
	r.says(r.lease(ha, discover(ha)), r.free(ha.at))
	r.denies(ha.at, tcp(t, ha, hb, 1, 2), api.ErrNone)
	r.says(r.revoked("hc"), r.flushes()...) // nobody was logged in there
	r.wrote(audit.Rec{Kind: audit.Revoke, Name: "hc"}, r.epoch())
	r.says(r.revoked("eve"), r.flushes()...) // she was nowhere
	r.wrote(audit.Rec{Kind: audit.Revoke, Name: "eve"}, r.epoch())
	r.binds(bound(hb, "bob", 1100))
}

func TestRevokeErrors(t *testing.T) {
	r := home(t, "allow: any -> any;")
	r.passes()
	for _, c := range []struct {
		name string
		e    api.Errno
	}{{"", api.ErrArg}, {"Ann", api.ErrArg}, {"abcdefghi", api.ErrArg}, {"zoe", api.ErrNone}, {"any", api.ErrNone}} {
		l, e := r.Revoke(c.name, r.now)
		r.refuses(c.e)(l, e)
	}
	r.wrote()
	r.binds(bound(ha, "ann", 1100), bound(hb, "bob", 1100), bound(hc, "", 1100))
}

func TestMostRevoked(t *testing.T) {
	r := made(t, block.Most, config)
	for i := range 65 {
		name := "u" + strconv.Itoa(i)
		r.is(r.User(name, talk.Key{}, r.now), api.OK)
		r.passes()
		l, e := r.Revoke(name, r.now)
		if i < 64 {
			r.is(e, api.OK)
			continue
		}
		r.refuses(api.ErrFull)(l, e)
		r.wrote()
	}
	if l := r.State().Users(); len(l) != 1 || r.Dead() {
		t.Error(l, r.Dead())
	}
}

// bound is a binding of a machine, with who is logged in there.
func bound(h host, user string, until int64) bind.Binding {
	return bind.Binding{Mac: h.mac, Ip: h.ip, At: h.at, Host: h.name, User: user, Until: until}
}

// binds fails unless just these bindings are there.
func (r *rig) binds(want ...bind.Binding) {
	r.Helper()
	if got := r.Bindings(); show(got) != show(want) {
		r.Errorf("bound are %+v, not %+v", got, want)
	}
}

func TestCompact(t *testing.T) {
	r := home(t, "allow: ann -> bob;")
	r.says(r.revoked("eve"), r.flushes()...)
	r.lets(ha.at, tcp(t, ha, hb, 1, 2))
	was := r.State()
	r.now += 5
	r.is(r.Compact(r.now), api.OK)
	r.recs = 0
	r.wrote(was.Recs(r.now)...)
	if !state.Same(r.State(), was) || len(r.Flows()) != 1 || len(r.Bindings()) != 3 || r.Dead() {
		t.Error("changed", r.State().Recs(0), r.Flows(), r.Bindings())
	}
	if room := 255 - len(was.Recs(0)); r.Room() != room {
		t.Error(r.Room(), room)
	}
	r.rules("")
	r.again()
	if s := r.State(); s.Epoch() != was.Epoch()+2 || len(s.Users()) != 2 || len(s.Leases()) != 3 {
		t.Error(s.Recs(0))
	}
}

// Of a device whose generation is the greatest one nothing is written anew.
func TestCompactErrFull(t *testing.T) {
	d := block.New(100)
	head := bits.New()
	head.Bits(16, 0x4F4A)
	head.Bits(32, math.MaxUint32)
	head.Bits(32, uint64(sum.Crc(head.Done())))
	d.Write(1, head.Done())
	d.Sync()
	r := &rig{T: t, d: d, now: 100}
	r.open(config)
	r.is(r.User("ann", talk.Key{}, r.now), api.OK)
	r.passes()
	r.is(r.Compact(r.now), api.ErrFull)
	r.wrote()
	if r.Dead() || r.Epoch() != 1 {
		t.Error(r.Dead(), r.Epoch())
	}
	r.is(r.Host("ha", 7, r.now), api.OK)
}

// The journal is full: what must be written down goes on, till the reserve is used up.
func TestReserveIsUsedUp(t *testing.T) {
	r := made(t, 44, config) // banks of 21 blocks
	for i := range 12 {
		r.is(r.User("u"+strconv.Itoa(i), talk.Key{}, r.now), api.OK)
	}
	r.joins(1, 1, 1)
	for _, text := range []string{"", "allow: any -> any;"} {
		r.policy(text, 0, api.ErrFull)
	}
	r.is(r.User("ann", talk.Key{}, r.now), api.ErrFull)
	r.is(r.Host("ha", 7, r.now), api.ErrFull)
	for i := range 4 {
		r.now++
		r.passes()
		r.says(r.revoked("u"+strconv.Itoa(i)), r.flushes()...)
		r.wrote(audit.Rec{Kind: audit.Revoke, Name: "u" + strconv.Itoa(i)}, r.epoch())
	}
	if r.Room() != 0 || r.Dead() {
		t.Fatal(r.Room(), r.Dead())
	}
	for _, name := range []string{"u4", "zoe", "any"} { // ahead of what the state says
		l, e := r.Revoke(name, r.now)
		r.refuses(api.ErrFull)(l, e)
		r.is(r.User(name, talk.Key{}, r.now), api.ErrFull)
		r.is(r.Host(name, 7, r.now), api.ErrFull)
	}
	for _, name := range []string{"", "Ann"} { // what may be in no record is ahead of that
		l, e := r.Revoke(name, r.now)
		r.refuses(api.ErrArg)(l, e)
		r.is(r.User(name, talk.Key{}, r.now), api.ErrArg)
		r.is(r.Host(name, 7, r.now), api.ErrArg)
	}
	if r.Dead() {
		t.Error("dead")
	}
	r.is(r.Compact(r.now), api.OK) // 4 of those who are revoked, 8 users
	if r.Room() != 21-1-8-8 {
		t.Error(r.Room())
	}
}

// A Revoke that is written, but the Epoch behind it is not: what was let in may not go on.
func TestBumpWithoutRoom(t *testing.T) {
	r := made(t, 44, config)
	for i := range 12 {
		r.is(r.User("u"+strconv.Itoa(i), talk.Key{}, r.now), api.OK)
	}
	for i := range 3 {
		r.says(r.revoked("u" + strconv.Itoa(i)))
	}
	r.is(r.Compact(r.now), api.OK)
	for i := 3; i < 5; i++ {
		r.says(r.revoked("u" + strconv.Itoa(i)))
	}
	if r.Room() != 1 {
		t.Fatal(r.Room())
	}
	r.passes()
	l, e := r.Revoke("u5", r.now)
	r.refuses(api.ErrDown)(l, e)
	r.wrote(audit.Rec{Kind: audit.Revoke, Name: "u5"})
	tellsNothing(t, r.Ctrl, r.now)
	r.again() // there is no room for its Epoch: all is written anew
	if r.Dead() || r.Epoch() != 7 || len(r.State().Revoked()) != 6 {
		t.Error(r.Dead(), r.Epoch(), r.State().Revoked())
	}
}

// The power goes in the midst of it.
func TestCompactPower(t *testing.T) {
	for acts := 1; ; acts++ {
		r := home(t, "allow: ann -> bob;")
		was := r.State()
		r.d.Arm(acts, 64, 3)
		e := r.Compact(r.now)
		dead := r.Dead()
		if e != api.OK && e != api.ErrDown || dead != (e == api.ErrDown) {
			t.Error(e, dead)
		}
		if dead {
			tellsNothing(t, r.Ctrl, r.now)
		}
		r.again()
		now := r.State()
		was.Apply(audit.Rec{Kind: audit.Epoch, Epoch: now.Epoch()})
		if !state.Same(now, was) || now.Epoch() != 3 {
			t.Error(now.Recs(0), was.Recs(0))
		}
		if e == api.OK {
			return
		}
	}
}
