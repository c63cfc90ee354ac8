package state_test

import (
	"cmp"
	"math"
	"slices"
	"strconv"
	"strings"
	"testing"

	"ostiary/api"
	"ostiary/audit"
	"ostiary/pool"
	"ostiary/state"
	"ostiary/talk"
)

// want is what a state has, as the chapter tells it.
type want struct {
	epoch   uint32
	policy  string
	users   map[string]talk.Key
	hosts   map[string]api.Mac
	revoked []string
	leases  []pool.Lease
}

// nothing is what a new one has.
var nothing want

// Records of each kind that leads to something.

func epoch(n uint32) audit.Rec     { return audit.Rec{Kind: 1, Time: 5, Epoch: n} }
func policy(text string) audit.Rec { return audit.Rec{Kind: 2, Time: 5, Text: text} }
func user(name string, a, b uint64) audit.Rec {
	return audit.Rec{Kind: 3, Time: 5, Name: name, A: a, B: b}
}
func host(name string, m api.Mac) audit.Rec { return audit.Rec{Kind: 4, Time: 5, Name: name, Mac: m} }
func revoke(name string) audit.Rec          { return audit.Rec{Kind: 5, Time: 5, Name: name} }
func lease(m api.Mac, ip api.Ip, until int64) audit.Rec {
	return audit.Rec{Kind: 6, Time: 5, Mac: m, Ip: ip, Until: until}
}
func unlet(m api.Mac, ip api.Ip) audit.Rec { return audit.Rec{Kind: 7, Time: 5, Mac: m, Ip: ip} }

// others are records of all kinds that lead to nothing.
func others() []audit.Rec {
	key := api.Key{Src: 1, Dst: 2, SrcIp: 11, DstIp: 12, Proto: api.Tcp, Sport: 4000, Dport: 80}
	ann, bob := audit.Who{User: "ann", Host: "h1"}, audit.Who{User: "bob", Host: "h2"}
	at := api.Place{Sw: 1, Port: 2}
	return []audit.Rec{
		{Kind: audit.Login, Time: 5, Name: "ann", Mac: 7, Ip: 11, From: at},
		{Kind: audit.Logoff, Time: 5, Name: "ann", Why: 41},
		{Kind: audit.Admit, Time: 5, Epoch: 99, Flow: 7, Rule: 3, From: at, To: at, Src: ann, Dst: bob, Key: key, Path: []api.Hop{{Sw: 1, In: 2, Out: 3}}},
		{Kind: audit.Deny, Time: 5, Why: 43, From: at, Key: key},
	}
}

func applies(t *testing.T, s *state.State, l ...audit.Rec) {
	t.Helper()
	for _, r := range l {
		if e := s.Apply(r); e != api.OK {
			t.Errorf("Apply(%+v): %d", r, e)
		}
	}
}

func refuses(t *testing.T, s *state.State, e api.Errno, l ...audit.Rec) {
	t.Helper()
	for _, r := range l {
		if got := s.Apply(r); got != e {
			t.Errorf("Apply(%+v): %d, not %d", r, got, e)
		}
	}
}

// has fails unless a state has just that, and each call that asks says so.
func has(t *testing.T, s *state.State, w want) {
	t.Helper()
	if s.Epoch() != w.epoch || s.Policy() != w.policy {
		t.Errorf("Epoch, Policy: %d, %q; not %d, %q", s.Epoch(), s.Policy(), w.epoch, w.policy)
	}
	same(t, "Users", s.Users(), sorted(w.users))
	same(t, "Hosts", s.Hosts(), sorted(w.hosts))
	slices.Sort(w.revoked)
	same(t, "Revoked", s.Revoked(), w.revoked)
	slices.SortFunc(w.leases, byIp)
	same(t, "Leases", s.Leases(), w.leases)
	for _, name := range slices.Concat(names(), sorted(w.users), sorted(w.hosts), w.revoked) {
		k, is := w.users[name]
		if got, ok := s.Key(name); got != k || ok != is {
			t.Errorf("Key(%q): %v, %t; not %v, %t", name, got, ok, k, is)
		}
		m, is := w.hosts[name]
		if got, ok := s.Mac(name); got != m || ok != is {
			t.Errorf("Mac(%q): %d, %t; not %d, %t", name, got, ok, m, is)
		}
	}
	recs(t, s, w, 9)
}

// recs fails unless Recs tells just those that the chapter tells of.
func recs(t *testing.T, s *state.State, w want, now int64) {
	t.Helper()
	l, list := s.Recs(now), w.recs(now)
	if !slices.EqualFunc(l, list, audit.Same) {
		t.Errorf("Recs(%d): %+v, not %+v", now, l, list)
	}
}

func (w want) recs(now int64) []audit.Rec {
	var l []audit.Rec
	if w.epoch > 0 {
		l = append(l, epoch(w.epoch))
	}
	if len(w.policy) > 0 {
		l = append(l, policy(w.policy))
	}
	for _, name := range w.revoked {
		l = append(l, user(name, 0, 0), revoke(name))
	}
	for _, name := range sorted(w.users) {
		l = append(l, user(name, w.users[name].A, w.users[name].B))
	}
	for _, name := range sorted(w.hosts) {
		l = append(l, host(name, w.hosts[name]))
	}
	for _, x := range w.leases {
		l = append(l, lease(x.Mac, x.Ip, x.Until))
	}
	for i := range l {
		l[i].Time = now
	}
	return l
}

func same[T comparable](t *testing.T, what string, l, want []T) {
	t.Helper()
	if !slices.Equal(l, want) {
		t.Errorf("%s: %v, not %v", what, l, want)
	}
}

func sorted[V any](m map[string]V) []string {
	var l []string
	for k := range m {
		l = append(l, k)
	}
	slices.Sort(l)
	return l
}

func byIp(a, b pool.Lease) int { return cmp.Compare(a.Ip, b.Ip) }

// names are some that are asked for, many of which may not be one.
func names() []string {
	return []string{"", "ann", "bob", "eve", "h1", "h2", "a", "an", "anna", "Ann", "ann ", " ann", "any", "via", "group", "ann\x00", "\xff", "toolonganame", strings.Repeat("x", 1000)}
}

// noNames are none of layer 7.
func noNames() []string {
	return []string{"", "1", "9a", "Ann", "aNn", "ann ", " ann", "an-n", "ann\x00", "\xff", "ä", "toolongxx", strings.Repeat("x", 1000)}
}

// reserved are those of layer 12.
func reserved() []string {
	return []string{"group", "allow", "deny", "outbound", "via", "any", "tcp", "udp", "ip", "port"}
}

func TestExample(t *testing.T) {
	s := state.New()
	applies(t, s, user("ann", 1, 2), epoch(3), revoke("ann"))
	has(t, s, want{epoch: 3, revoked: []string{"ann"}})
	l := s.Recs(9)
	if len(l) != 3 || l[0].Kind != audit.Epoch || l[1].Kind != audit.User || l[2].Kind != audit.Revoke {
		t.Error(l)
	}
}

// Of a nil state.
func TestNilState(t *testing.T) {
	var s *state.State
	for range 2 {
		has(t, s, nothing)
		refuses(t, s, api.ErrNil, epoch(3), policy("x"), user("ann", 1, 2), host("h1", 7), revoke("ann"), lease(7, 11, 50), unlet(7, 11), audit.Rec{})
		refuses(t, s, api.ErrNil, others()...)
	}
	if !state.Same(s, s) || !state.Same(nil, nil) {
		t.Error("two nil ones are the same")
	}
	if state.Same(s, state.New()) || state.Same(state.New(), s) {
		t.Error("a nil one is not the same as one that is there")
	}
}

func TestNew(t *testing.T) {
	has(t, state.New(), nothing)
}

// P28.1.

// broken are records that may not be: each of them would lead to something if it had one thing else.
func broken() []audit.Rec {
	l := []audit.Rec{{}, {Kind: -1}, {Kind: 12}, {Kind: 12, Name: "eve"}, {Kind: 256 + 1, Epoch: 50}, {Kind: 1<<32 + 1, Epoch: 50}, {Kind: math.MinInt}, {Kind: math.MaxInt}}
	good := []audit.Rec{epoch(50), policy("b"), user("zoe", 5, 6), host("h9", 9), revoke("ann"), lease(9, 19, 50), unlet(7, 11)}
	for _, r := range append(good, others()...) {
		for _, now := range []int64{-1, api.MaxTime, math.MinInt64, math.MaxInt64} {
			x := r
			x.Time = now
			l = append(l, x)
		}
		x := r
		x.Path = append(slices.Clone(r.Path), api.Hop{})
		l = append(l, x)
		x = r
		x.Why += 256
		l = append(l, x)
	}
	for _, name := range noNames() {
		l = append(l, user(name, 5, 6), host(name, 9), revoke(name))
	}
	e, p, u, h, v, x, y := good[0], good[1], good[2], good[3], good[4], good[5], good[6]
	e.Name, p.Name, u.Mac, h.A, v.Mac, x.Name, y.Until = "ann", "ann", 9, 5, 7, "ann", 50
	l = append(l, e, p, u, h, v, x, y)
	l = append(l, host("h9", 1<<48), host("h9", math.MaxUint64), lease(1<<48, 19, 50), unlet(1<<48+7, 11))
	l = append(l, lease(9, 19, -1), lease(9, 19, api.MaxTime), policy(strings.Repeat("x", 801)))
	return l
}

// some is a state with something of all, and what it has.
func some(t *testing.T) (*state.State, want) {
	t.Helper()
	s := state.New()
	applies(t, s, epoch(7), policy("allow: ann -> bob;"), user("ann", 1, 2), user("eve", 3, 4), host("h1", 7), host("h2", 8),
		revoke("eve"), user("bob", 5, 6), lease(7, 11, 50), lease(8, 12, 60), revoke("h2"))
	return s, want{
		epoch: 7, policy: "allow: ann -> bob;",
		users: map[string]talk.Key{"ann": {A: 1, B: 2}, "bob": {A: 5, B: 6}},
		hosts: map[string]api.Mac{"h1": 7}, revoked: []string{"eve", "h2"},
		leases: []pool.Lease{{Mac: 7, Ip: 11, Until: 50}, {Mac: 8, Ip: 12, Until: 60}},
	}
}

func TestApplyOfWhatMayNotBe(t *testing.T) {
	s, w := some(t)
	has(t, s, w)
	for _, r := range broken() {
		refuses(t, s, api.ErrArg, r)
		has(t, s, w)
	}
}

func TestApplyOfOthers(t *testing.T) {
	s, w := some(t)
	for _, r := range others() {
		applies(t, s, r)
		has(t, s, w)
	}
	s = state.New()
	applies(t, s, others()...)
	has(t, s, nothing)
}

func TestEpoch(t *testing.T) {
	s := state.New()
	refuses(t, s, api.ErrStale, epoch(0))
	for _, n := range []uint32{1, 2, 3, 7, 255, 256, 1 << 16, 1<<16 + 1, 1<<31 - 1, 1 << 31, 1<<31 + 1, math.MaxUint32 - 1, math.MaxUint32} {
		applies(t, s, epoch(n))
		has(t, s, want{epoch: n})
		refuses(t, s, api.ErrStale, epoch(n), epoch(n-1), epoch(0), epoch(1))
		has(t, s, want{epoch: n})
	}
}

func TestPolicy(t *testing.T) {
	s := state.New()
	for _, text := range []string{"", "allow: ann -> bob;", "allow: ann -> bob;", "no policy", "\x00\xff", strings.Repeat("x", 799), strings.Repeat("y", 800), " ", ""} {
		applies(t, s, policy(text))
		has(t, s, want{policy: text})
		refuses(t, s, api.ErrArg, policy(strings.Repeat("x", 801)))
		has(t, s, want{policy: text})
	}
}

func TestUsers(t *testing.T) {
	s := state.New()
	w := want{users: map[string]talk.Key{}}
	for i, name := range []string{"m", "ann", "z9", "a", "abcdefgh", "anna", "a1", "groups", "vi"} {
		k := talk.Key{A: uint64(i), B: math.MaxUint64 - uint64(i)}
		applies(t, s, user(name, k.A, k.B))
		w.users[name] = k
		has(t, s, w)
		refuses(t, s, api.ErrThere, user(name, k.A, k.B), user(name, 0, 0), host(name, 7))
		has(t, s, w)
	}
	applies(t, s, user("same", 1, math.MaxUint64-1)) // two may have one secret
	w.users["same"] = w.users["ann"]
	has(t, s, w)
}

func TestHosts(t *testing.T) {
	s := state.New()
	w := want{hosts: map[string]api.Mac{}}
	macs := []api.Mac{7, 0, 8, 1 << 32, 1<<32 + 7, api.Anybody - 1, 1 << 47, 6, 5}
	for i, name := range []string{"m", "ann", "z9", "a", "abcdefgh", "anna", "a1", "groups", "vi"} {
		applies(t, s, host(name, macs[i]))
		w.hosts[name] = macs[i]
		has(t, s, w)
		for _, m := range macs[:i+1] {
			refuses(t, s, api.ErrThere, host(name, m), host("other", m), user(name, 1, 2))
		}
		refuses(t, s, api.ErrThere, host(name, 99))
		has(t, s, w)
	}
}

func TestReserved(t *testing.T) {
	s, w := some(t)
	for _, name := range reserved() {
		refuses(t, s, api.ErrArg, user(name, 1, 2), host(name, 99), host(name, 7))
		refuses(t, s, api.ErrNone, revoke(name))
		has(t, s, w)
	}
}

func TestAnybody(t *testing.T) {
	s, w := some(t)
	refuses(t, s, api.ErrArg, host("h9", api.Anybody), host("h1", api.Anybody), host("h2", api.Anybody), host("ann", api.Anybody)) // ahead of ErrThere and ErrState
	has(t, s, w)
	applies(t, s, lease(api.Anybody, 13, 70)) // of a lease it is not asked
	w.leases = append(w.leases, pool.Lease{Mac: api.Anybody, Ip: 13, Until: 70})
	has(t, s, w)
}

func TestNamesAreOnes(t *testing.T) {
	s := state.New()
	applies(t, s, user("ann", 1, 2), host("h1", 7))
	w := want{users: map[string]talk.Key{"ann": {A: 1, B: 2}}, hosts: map[string]api.Mac{"h1": 7}}
	refuses(t, s, api.ErrThere, user("ann", 1, 2), user("h1", 1, 2), host("ann", 8), host("h1", 8), host("h2", 7))
	has(t, s, w)
}

func TestRevoke(t *testing.T) {
	s := state.New()
	refuses(t, s, api.ErrNone, revoke("ann"))
	applies(t, s, user("ann", 1, 2), user("bob", 3, 4), host("h1", 7), host("h2", 8), lease(7, 11, 50))
	refuses(t, s, api.ErrNone, revoke("eve"), revoke("an"), revoke("anna"), revoke("h"))
	applies(t, s, revoke("ann"))
	w := want{users: map[string]talk.Key{"bob": {A: 3, B: 4}}, hosts: map[string]api.Mac{"h1": 7, "h2": 8}, revoked: []string{"ann"}, leases: []pool.Lease{{Mac: 7, Ip: 11, Until: 50}}}
	has(t, s, w)
	refuses(t, s, api.ErrNone, revoke("ann")) // nobody has that name any more
	refuses(t, s, api.ErrState, user("ann", 1, 2), host("ann", 9))
	refuses(t, s, api.ErrState, host("ann", 7)) // ahead of ErrThere
	has(t, s, w)
	applies(t, s, revoke("h1"))
	delete(w.hosts, "h1")
	w.revoked = append(w.revoked, "h1")
	has(t, s, w) // its lease stays
	refuses(t, s, api.ErrState, user("h1", 1, 2), host("h1", 7), host("h1", 9))
	applies(t, s, host("h3", 7)) // its Mac is nobody's
	w.hosts["h3"] = 7
	has(t, s, w)
}

// name is the number i's.
func name(i int) string { return "n" + strconv.Itoa(i) }

func TestRoomForUsersAndHosts(t *testing.T) {
	s := state.New()
	w := want{users: map[string]talk.Key{}, hosts: map[string]api.Mac{}}
	for i := range 16 {
		applies(t, s, user(name(i), uint64(i), 5))
		w.users[name(i)] = talk.Key{A: uint64(i), B: 5}
	}
	refuses(t, s, api.ErrFull, user("x", 1, 2))
	for i := range 16 {
		applies(t, s, host(name(100+i), api.Mac(i)))
		w.hosts[name(100+i)] = api.Mac(i)
	}
	has(t, s, w)
	refuses(t, s, api.ErrFull, user("x", 1, 2), host("x", 99))
	refuses(t, s, api.ErrThere, user("n0", 1, 2), user("n100", 1, 2), host("n0", 99), host("n100", 99), host("x", 15)) // ahead of ErrFull
	refuses(t, s, api.ErrArg, user("any", 1, 2), host("via", 99), host("x", api.Anybody))
	has(t, s, w)
	applies(t, s, revoke("n3"), revoke("n103"))
	delete(w.users, "n3")
	delete(w.hosts, "n103")
	w.revoked = []string{"n103", "n3"}
	has(t, s, w)
	applies(t, s, user("x", 1, 2), host("y", 3))
	w.users["x"], w.hosts["y"] = talk.Key{A: 1, B: 2}, 3
	has(t, s, w)
	refuses(t, s, api.ErrFull, user("z", 1, 2), host("z", 99))
	refuses(t, s, api.ErrState, user("n3", 1, 2), user("n103", 1, 2), host("n3", 99), host("n103", 99), host("n3", 0)) // ahead of ErrFull and ErrThere
	has(t, s, w)
}

func TestRoomForRevoked(t *testing.T) {
	s := state.New()
	var w want
	for i := range 64 {
		if i%2 == 0 {
			applies(t, s, user(name(i), 1, 2))
		} else {
			applies(t, s, host(name(i), 7))
		}
		applies(t, s, revoke(name(i)))
		w.revoked = append(w.revoked, name(i))
	}
	has(t, s, w)
	applies(t, s, user("ann", 1, 2), host("h1", 7))
	w.users, w.hosts = map[string]talk.Key{"ann": {A: 1, B: 2}}, map[string]api.Mac{"h1": 7}
	for range 2 {
		refuses(t, s, api.ErrFull, revoke("ann"), revoke("h1"))
		refuses(t, s, api.ErrNone, revoke("bob"), revoke("n0"), revoke("n63")) // ahead of ErrFull
		has(t, s, w)
	}
}

func TestLeases(t *testing.T) {
	s := state.New()
	applies(t, s, lease(7, 11, 50))
	has(t, s, want{leases: []pool.Lease{{Mac: 7, Ip: 11, Until: 50}}})
	applies(t, s, lease(7, 11, 40)) // also to an earlier time
	has(t, s, want{leases: []pool.Lease{{Mac: 7, Ip: 11, Until: 40}}})
	applies(t, s, lease(7, 12, 60)) // another address: that of before goes
	has(t, s, want{leases: []pool.Lease{{Mac: 7, Ip: 12, Until: 60}}})
	applies(t, s, lease(8, 12, 70)) // another machine: that of before goes
	has(t, s, want{leases: []pool.Lease{{Mac: 8, Ip: 12, Until: 70}}})
	applies(t, s, lease(7, 11, 80))
	has(t, s, want{leases: []pool.Lease{{Mac: 7, Ip: 11, Until: 80}, {Mac: 8, Ip: 12, Until: 70}}})
	applies(t, s, lease(9, 13, 0), lease(0, 0, api.MaxTime-1))
	has(t, s, want{leases: []pool.Lease{{Mac: 0, Ip: 0, Until: api.MaxTime - 1}, {Mac: 7, Ip: 11, Until: 80}, {Mac: 8, Ip: 12, Until: 70}, {Mac: 9, Ip: 13, Until: 0}}})
	applies(t, s, lease(7, 12, 90)) // both go
	has(t, s, want{leases: []pool.Lease{{Mac: 0, Ip: 0, Until: api.MaxTime - 1}, {Mac: 7, Ip: 12, Until: 90}, {Mac: 9, Ip: 13, Until: 0}}})
	applies(t, s, lease(0, math.MaxUint32, 5), lease(1<<32+7, 1<<31, 6)) // all bits count
	has(t, s, want{leases: []pool.Lease{{Mac: 0, Ip: math.MaxUint32, Until: 5}, {Mac: 7, Ip: 12, Until: 90}, {Mac: 9, Ip: 13, Until: 0}, {Mac: 1<<32 + 7, Ip: 1 << 31, Until: 6}}})
}

func TestUnlet(t *testing.T) {
	s := state.New()
	refuses(t, s, api.ErrNone, unlet(7, 11), unlet(0, 0))
	applies(t, s, lease(7, 11, 50), lease(8, 12, 60))
	w := want{leases: []pool.Lease{{Mac: 7, Ip: 11, Until: 50}, {Mac: 8, Ip: 12, Until: 60}}}
	refuses(t, s, api.ErrNone, unlet(7, 12), unlet(8, 11), unlet(7, 13), unlet(9, 11), unlet(0, 11), unlet(7, 0), unlet(11, 7), unlet(1<<32+7, 11), unlet(7, 1<<16+11))
	has(t, s, w)
	applies(t, s, unlet(7, 11))
	has(t, s, want{leases: w.leases[1:]})
	refuses(t, s, api.ErrNone, unlet(7, 11))
	has(t, s, want{leases: w.leases[1:]})
	applies(t, s, unlet(8, 12))
	has(t, s, nothing)
}

func TestRoomForLeases(t *testing.T) {
	s := state.New()
	var w want
	put := func(m api.Mac, ip api.Ip) {
		t.Helper()
		applies(t, s, lease(m, ip, 50))
		w.leases = append(w.leases, pool.Lease{Mac: m, Ip: ip, Until: 50})
	}
	gone := func(ip api.Ip) {
		w.leases = slices.DeleteFunc(w.leases, func(l pool.Lease) bool { return l.Ip == ip })
	}
	for i := range 1024 {
		put(api.Mac(i), api.Ip(5000-i))
	}
	has(t, s, w)
	refuses(t, s, api.ErrFull, lease(1024, 9, 50), lease(api.Anybody, 9, 50))
	has(t, s, w)
	gone(5000)
	put(0, 9) // his other one goes: there is room
	has(t, s, w)
	refuses(t, s, api.ErrFull, lease(1024, 5000, 50))
	gone(9)
	put(1024, 9) // another one had it
	has(t, s, w)
	refuses(t, s, api.ErrFull, lease(0, 5000, 50))
	gone(4999)
	gone(4998)
	put(1, 4998) // two go
	put(2, 1)
	has(t, s, w)
	refuses(t, s, api.ErrFull, lease(0, 5000, 50))
	has(t, s, w)
	applies(t, s, unlet(2, 1))
	gone(1)
	put(0, 5000)
	has(t, s, w)
	refuses(t, s, api.ErrFull, lease(2, 1, 50))
	gone(5000)
	put(0, 5000) // the very same one
	has(t, s, w)
}

// P28.2.

func alike(t *testing.T, a, b *state.State, is bool) {
	t.Helper()
	if state.Same(a, b) != is || state.Same(b, a) != is {
		t.Errorf("Same is not %t: %+v and %+v", is, a.Recs(0), b.Recs(0))
	}
}

func TestSame(t *testing.T) {
	steps := [][]audit.Rec{
		{}, {epoch(1)}, {epoch(2)}, {policy("x")}, {policy("y")}, {policy("xx")},
		{user("ann", 1, 2)}, {user("ann", 1, 3)}, {user("ann", 3, 2)}, {user("bob", 1, 2)}, {user("ann", 1, 2), user("bob", 1, 2)},
		{user("ann", 1, 2), user("bob", 3, 4)}, {user("ann", 3, 4), user("bob", 1, 2)},
		{host("ann", 1)}, {host("h1", 7)}, {host("h1", 8)}, {host("h2", 7)}, {host("h1", 7), host("h2", 8)}, {host("h1", 8), host("h2", 7)},
		{user("ann", 1, 2), revoke("ann")}, {user("bob", 1, 2), revoke("bob")}, {user("ann", 1, 2), revoke("ann"), host("h1", 7)}, {user("ann", 1, 2), host("h1", 7), revoke("h1")},
		{lease(7, 11, 50)}, {lease(7, 11, 51)}, {lease(7, 12, 50)}, {lease(8, 11, 50)}, {lease(7, 11, 50), lease(8, 12, 50)}, {lease(7, 12, 50), lease(8, 11, 50)},
		{epoch(1), policy("x"), user("ann", 1, 2), host("h1", 7), lease(7, 11, 50)},
	}
	for i, x := range steps {
		for j, y := range steps {
			a, b := state.New(), state.New()
			applies(t, a, x...)
			applies(t, b, y...)
			alike(t, a, b, i == j)
		}
	}
}

// The same state may be come to by other records.
func TestSameByOtherWays(t *testing.T) {
	ways := [][]audit.Rec{
		{epoch(3), policy("x"), user("ann", 1, 2), user("bob", 3, 4), revoke("bob"), host("h1", 7), host("h2", 8), lease(7, 11, 50), lease(8, 12, 60)},
		{lease(8, 12, 60), lease(7, 11, 50), host("h2", 8), host("h1", 7), host("bob", 9), revoke("bob"), user("ann", 1, 2), policy("x"), epoch(3)},
		{lease(9, 12, 5), epoch(1), lease(7, 12, 50), epoch(2), epoch(3), lease(8, 11, 5), lease(7, 11, 50), lease(8, 12, 60), policy("y"), policy(""), policy("x"), user("bob", 7, 7), host("h2", 8), host("h1", 7), revoke("bob"), user("ann", 1, 2)},
	}
	for _, x := range ways {
		for _, y := range ways {
			a, b := state.New(), state.New()
			applies(t, a, x...)
			applies(t, b, y...)
			alike(t, a, b, true)
			later := epoch(9)
			later.Time = 77
			applies(t, a, later)
			applies(t, b, epoch(9)) // a record's time plays no part
			alike(t, a, b, true)
			alike(t, a, a, true)
		}
	}
}

// P28.3: the order of all, of many names.
func TestRecsInOrder(t *testing.T) {
	s := state.New()
	applies(t, s,
		lease(9, 15, 50), host("h3", 9), user("zoe", 5, 6), user("m", 0, 0), host("b", 1), policy("p"), lease(3, 20, 50), revoke("zoe"),
		user("a", 1, 1), host("z", 2), revoke("z"), lease(20, 3, 50), epoch(8), user("eve", 9, 9), revoke("h3"), host("c", 5))
	want := []audit.Rec{
		epoch(8), policy("p"),
		user("h3", 0, 0), revoke("h3"), user("z", 0, 0), revoke("z"), user("zoe", 0, 0), revoke("zoe"),
		user("a", 1, 1), user("eve", 9, 9), user("m", 0, 0), host("b", 1), host("c", 5),
		lease(20, 3, 50), lease(9, 15, 50), lease(3, 20, 50),
	}
	if l := s.Recs(5); !slices.EqualFunc(l, want, audit.Same) {
		t.Errorf("Recs: %+v, not %+v", l, want)
	}
}

func TestRecsOfAnyTime(t *testing.T) {
	s, w := some(t)
	for _, now := range []int64{0, 9, 5, api.MaxTime - 1, api.MaxTime, -1, math.MaxInt64, math.MinInt64} {
		recs(t, s, w, now)
		recs(t, state.New(), nothing, now)
		recs(t, nil, nothing, now)
	}
}

// P28.4.

// again applies a state's records to a new one.
func again(t *testing.T, s *state.State, now int64) *state.State {
	t.Helper()
	x := state.New()
	applies(t, x, s.Recs(now)...)
	alike(t, s, x, true)
	return x
}

func TestSnapshot(t *testing.T) {
	s, w := some(t)
	for _, now := range []int64{0, 1, 77, api.MaxTime - 1} {
		x := again(t, s, now)
		has(t, x, w)
		refuses(t, x, api.ErrState, user("eve", 3, 4), host("h2", 8))
	}
	for _, now := range []int64{-1, api.MaxTime, math.MinInt64, math.MaxInt64} {
		x := state.New()
		refuses(t, x, api.ErrArg, s.Recs(now)...)
		has(t, x, nothing)
	}
	has(t, again(t, state.New(), 0), nothing)
}

func TestSnapshotOfAFullOne(t *testing.T) {
	s := state.New()
	for i := range 64 {
		applies(t, s, user(name(i), 1, 2), revoke(name(i)))
	}
	for i := range 16 {
		applies(t, s, user(name(100+i), uint64(i), math.MaxUint64), host(name(200+i), api.Mac(i)))
	}
	for i := range 1024 {
		applies(t, s, lease(api.Mac(i), api.Ip(5000-i), int64(i)))
	}
	applies(t, s, policy(strings.Repeat("x", 800)), epoch(math.MaxUint32))
	if n := len(s.Recs(0)); n != 2+2*64+2*16+1024 {
		t.Error(n)
	}
	again(t, s, 5)
}

// P28.5.

func TestRefusedChangesNothing(t *testing.T) {
	s, w := some(t)
	refuses(t, s, api.ErrStale, epoch(7), epoch(6), epoch(0))
	refuses(t, s, api.ErrThere, user("ann", 9, 9), user("h1", 9, 9), host("bob", 9), host("h9", 7))
	refuses(t, s, api.ErrState, user("eve", 9, 9), host("h2", 9))
	refuses(t, s, api.ErrNone, revoke("zoe"), revoke("eve"), unlet(7, 12))
	refuses(t, s, api.ErrArg, user("any", 9, 9), host("h9", api.Anybody))
	has(t, s, w)
	again(t, s, 5)
}

// The rules that hold everywhere.

func TestNoListIsShared(t *testing.T) {
	s, w := some(t)
	for range 2 {
		l, u, h, v, x := s.Recs(5), s.Users(), s.Hosts(), s.Revoked(), s.Leases()
		clear(l[:cap(l)])
		clear(u[:cap(u)])
		clear(h[:cap(h)])
		clear(v[:cap(v)])
		clear(x[:cap(x)])
		has(t, s, w)
	}
	u, h, v, x, l := s.Users(), s.Hosts(), s.Revoked(), s.Leases(), s.Recs(5)
	applies(t, s, revoke("ann"), revoke("h1"), unlet(7, 11), user("a", 1, 2), host("b", 3))
	same(t, "Users", u, []string{"ann", "bob"})
	same(t, "Hosts", h, []string{"h1"})
	same(t, "Revoked", v, []string{"eve", "h2"})
	same(t, "Leases", x, w.leases)
	if !slices.EqualFunc(l, w.recs(5), audit.Same) {
		t.Error("Recs", l)
	}
}

func TestTwoStatesAreTwo(t *testing.T) {
	a, b := state.New(), state.New()
	applies(t, a, epoch(7), policy("x"), user("ann", 1, 2), host("h1", 7), lease(7, 11, 50), revoke("ann"))
	has(t, b, nothing)
	alike(t, a, b, false)
}

// P1: calls end at all arguments, also of a state that New did not make.
func TestAnyArguments(t *testing.T) {
	full, _ := some(t)
	nums := []int64{math.MinInt64, -1 << 32, -1, 0, 1, 8, 9, 1 << 32, 1 << 48, api.MaxTime, math.MaxInt64}
	for _, s := range []*state.State{nil, {}, state.New(), full} {
		for _, a := range nums {
			for _, b := range nums {
				for kind := -1; kind < 14; kind++ {
					for _, name := range []string{"", "ann", "any", "\xff"} {
						s.Apply(audit.Rec{Kind: kind, Time: a, Name: name, Epoch: uint32(b)})
						s.Apply(audit.Rec{Kind: kind, Time: 5, Name: name, Mac: api.Mac(a), Ip: api.Ip(b), Until: b, Path: []api.Hop{{Sw: int(a)}}})
						s.Apply(audit.Rec{Kind: kind, Name: name, A: uint64(a), B: uint64(b)})
						s.Apply(audit.Rec{Kind: kind, Name: name, Mac: api.Mac(a)})
						s.Apply(audit.Rec{Kind: kind, Mac: api.Mac(a), Ip: api.Ip(b), Until: b})
					}
				}
				s.Recs(a)
			}
			for _, name := range names() {
				s.Key(name)
				s.Mac(name)
			}
			for _, x := range []*state.State{nil, {}, state.New(), full} {
				state.Same(s, x)
			}
			s.Epoch()
			s.Policy()
			s.Users()
			s.Hosts()
			s.Revoked()
			s.Leases()
		}
	}
}
