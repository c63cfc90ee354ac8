package user_test

import (
	"fmt"
	"math"
	"slices"
	"strings"
	"testing"

	"ostiary/api"
	"ostiary/talk"
	"ostiary/user"
)

const lastLock = 1 << 20

// key is the secret of a name, in these tests.
func key(name string) talk.Key { return talk.Key{A: uint64(len(name)), B: uint64(name[0])} }

// right is the answer of who knows the secret of that name.
func right(name string, m api.Mac, ip api.Ip, nonce uint64) uint64 {
	return talk.Proof(key(name), talk.Response, name, nonce, m, ip)
}

func users(t *testing.T, b *user.Book, name string, k talk.Key, want api.Errno) {
	t.Helper()
	if e := b.User(name, k); e != want {
		t.Errorf("User(%q): %d, not %d", name, e, want)
	}
}

func hosts(t *testing.T, b *user.Book, name string, m api.Mac, want api.Errno) {
	t.Helper()
	if e := b.Host(name, m); e != want {
		t.Errorf("Host(%q, %d): %d, not %d", name, m, e, want)
	}
}

func revokes(t *testing.T, b *user.Book, name string, want bool) {
	t.Helper()
	if ok := b.Revoke(name); ok != want {
		t.Errorf("Revoke(%q): %t", name, ok)
	}
}

// has fails unless just these are users, and these machines, and each call that asks says so.
func has(t *testing.T, b *user.Book, names []string, macs map[string]api.Mac) {
	t.Helper()
	if l := b.Users(); !slices.Equal(l, sorted(names)) {
		t.Errorf("Users: %q, not %q", l, names)
	}
	var hosts []string
	of := map[api.Mac]string{}
	for name, m := range macs {
		hosts = append(hosts, name)
		of[m] = name
	}
	if l := b.Hosts(); !slices.Equal(l, sorted(hosts)) {
		t.Errorf("Hosts: %q, not %q", l, hosts)
	}
	for _, name := range slices.Concat(names, hosts, some(), noNames()) {
		if ok := b.Is(name); ok != slices.Contains(names, name) {
			t.Errorf("Is(%q): %t", name, ok)
		}
	}
	for _, m := range addresses() {
		want, is := of[m]
		if name, ok := b.HostOf(m); name != want || ok != is {
			t.Errorf("HostOf(%d): %q, %t; not %q, %t", m, name, ok, want, is)
		}
	}
}

func sorted(l []string) []string {
	l = slices.Clone(l)
	slices.Sort(l)
	return l
}

// some may be names.
func some() []string {
	return []string{"a", "z", "ann", "bob", "eve", "h1", "h2", "abcdefgh", "a1234567", "z9", "vi", "anyone", "groups", "port1", "ips"}
}

// noNames may not be names: by their form, or as they are reserved.
func noNames() []string {
	l := []string{"", "1", "1a", "Ann", "aNn", "abcdefghi", "a b", " ann", "ann ", "a-b", "a_b", "ä", "aä", "a\x00", "a\x80", "\x00", "a:", "a`", "a{", strings.Repeat("a", 300)}
	return append(l, "group", "allow", "deny", "outbound", "via", "any", "tcp", "udp", "ip", "port")
}

// addresses are such as machines may have, and others.
func addresses() []api.Mac {
	l := noAddresses()
	for m := range api.Mac(100) {
		l = append(l, m)
	}
	return append(l, 1<<32, 1<<32+7, 1<<47, api.Anybody-1)
}

// noAddresses are none that a machine may have.
func noAddresses() []api.Mac {
	return []api.Mac{api.Anybody, 1 << 48, 1<<48 + 7, 1 << 63, 1<<63 + 7, math.MaxUint64}
}

// number makes a name of a number.
func number(i int) string { return fmt.Sprintf("n%d", i) }

// full is a book with sixteen users, n0 to n15, and sixteen machines, h0 to h15 with addresses 0 to 15.
func full(t *testing.T, lock int64) (*user.Book, []string, map[string]api.Mac) {
	t.Helper()
	b := user.New(lock)
	var names []string
	macs := map[string]api.Mac{}
	for i := range 16 {
		name, host := number(i), fmt.Sprintf("h%d", i)
		users(t, b, name, key(name), api.OK)
		hosts(t, b, host, api.Mac(i), api.OK)
		names = append(names, name)
		macs[host] = api.Mac(i)
	}
	return b, names, macs
}

func TestExample(t *testing.T) {
	b := user.New(10)
	users(t, b, "ann", key("ann"), api.OK)
	for i := range 3 {
		begins(t, b, "ann", 7, 5, 100, api.OK)
		finishes(t, b, "ann", 7, 11, 5, right("ann", 7, 11, 5)+uint64(i)+1, 100, api.ErrAuth)
	}
	locked(t, b, "ann", 100, true)
}

// Of a nil book.
func TestNilBook(t *testing.T) {
	var b *user.Book
	for _, name := range append(some(), noNames()...) {
		users(t, b, name, talk.Key{}, api.ErrNil)
		hosts(t, b, name, 7, api.ErrNil)
		hosts(t, b, name, api.Anybody, api.ErrNil)
		begins(t, b, name, 7, 5, 100, api.ErrNil)
		tag := talk.Proof(talk.Key{}, talk.Response, name, 5, 7, 11)
		finishes(t, b, name, 7, 11, 5, tag, 100, api.ErrNil)
		proves(t, b, name, talk.Response, 7, 11, 5, tag, false)
		locked(t, b, name, 0, false)
		locked(t, b, name, api.MaxTime, false)
		revokes(t, b, name, false)
	}
	b.Forget()
	has(t, b, nil, nil)
}

func TestNew(t *testing.T) {
	b := user.New(10)
	has(t, b, nil, nil)
	revokes(t, b, "ann", false)
	begins(t, b, "ann", 7, 5, 100, api.ErrAuth)
	locked(t, b, "ann", 0, false)
	b.Forget()
	has(t, b, nil, nil)
}

// P24.1.

func TestUser(t *testing.T) {
	for _, name := range some() {
		b := user.New(10)
		users(t, b, name, key(name), api.OK)
		has(t, b, []string{name}, nil)
		users(t, b, name, key(name), api.ErrThere)
		users(t, b, name, talk.Key{}, api.ErrThere)
		hosts(t, b, name, 7, api.ErrThere)
		has(t, b, []string{name}, nil)
		proves(t, b, name, talk.Response, 7, 11, 5, right(name, 7, 11, 5), true) // it has the secret that it had
	}
}

func TestHost(t *testing.T) {
	for _, name := range some() {
		b := user.New(10)
		hosts(t, b, name, 7, api.OK)
		want := map[string]api.Mac{name: 7}
		has(t, b, nil, want)
		hosts(t, b, name, 7, api.ErrThere)
		hosts(t, b, name, 8, api.ErrThere)
		hosts(t, b, "other", 7, api.ErrThere)
		users(t, b, name, key(name), api.ErrThere)
		has(t, b, nil, want)
		hosts(t, b, "other", 8, api.OK)
		has(t, b, nil, map[string]api.Mac{name: 7, "other": 8})
	}
}

func TestNamesThatMayNotBe(t *testing.T) {
	b := user.New(10)
	for _, name := range noNames() {
		users(t, b, name, talk.Key{A: 1}, api.ErrArg)
		hosts(t, b, name, 7, api.ErrArg)
		hosts(t, b, name, api.Anybody, api.ErrArg)
		revokes(t, b, name, false)
	}
	has(t, b, nil, nil)
	b, names, macs := full(t, 10)
	for _, name := range noNames() {
		users(t, b, name, talk.Key{A: 1}, api.ErrArg) // ahead of ErrFull
		hosts(t, b, name, 7, api.ErrArg)
		hosts(t, b, name, 77, api.ErrArg)
	}
	has(t, b, names, macs)
}

func TestAddresses(t *testing.T) {
	for _, m := range addresses() {
		b := user.New(10)
		if slices.Contains(noAddresses(), m) {
			hosts(t, b, "h1", m, api.ErrArg)
			has(t, b, nil, nil)
			continue
		}
		hosts(t, b, "h1", m, api.OK)
		has(t, b, nil, map[string]api.Mac{"h1": m})
	}
	b, names, macs := full(t, 10)
	revokes(t, b, "h3", true)
	delete(macs, "h3")
	for _, m := range noAddresses() { // ahead of all others
		hosts(t, b, "h3", m, api.ErrArg)
		hosts(t, b, "h4", m, api.ErrArg)
		hosts(t, b, "n4", m, api.ErrArg)
	}
	hosts(t, b, "h20", 3, api.OK)
	macs["h20"] = 3
	for _, m := range noAddresses() {
		hosts(t, b, "h21", m, api.ErrArg)
	}
	has(t, b, names, macs)
}

// Two users may have one secret.
func TestOneSecret(t *testing.T) {
	b := user.New(10)
	users(t, b, "ann", talk.Key{}, api.OK)
	users(t, b, "bob", talk.Key{}, api.OK)
	for _, name := range []string{"ann", "bob"} {
		begins(t, b, name, 7, 5, 100, api.OK)
		finishes(t, b, name, 7, 11, 5, talk.Proof(talk.Key{}, talk.Response, name, 5, 7, 11), 100, api.OK)
	}
}

func TestFull(t *testing.T) {
	b, names, macs := full(t, 10)
	has(t, b, names, macs)
	users(t, b, "ann", key("ann"), api.ErrFull)
	hosts(t, b, "ann", 77, api.ErrFull)
	users(t, b, "n0", key("n0"), api.ErrThere) // ahead of ErrFull
	users(t, b, "h15", key("n0"), api.ErrThere)
	hosts(t, b, "h0", 77, api.ErrThere)
	hosts(t, b, "n15", 77, api.ErrThere)
	hosts(t, b, "ann", 15, api.ErrThere)
	has(t, b, names, macs)
	revokes(t, b, "n3", true)
	users(t, b, "n3", key("n3"), api.ErrState)
	hosts(t, b, "ann", 77, api.ErrFull) // a user's place is no machine's
	users(t, b, "ann", key("ann"), api.OK)
	users(t, b, "bob", key("bob"), api.ErrFull)
	users(t, b, "n3", key("n3"), api.ErrState) // ahead of ErrFull
	hosts(t, b, "n3", 5, api.ErrState)         // and of ErrThere
	revokes(t, b, "h5", true)
	users(t, b, "bob", key("bob"), api.ErrFull)
	hosts(t, b, "bob", 5, api.OK) // nobody has that address any more
	hosts(t, b, "eve", 77, api.ErrFull)
	names[3] = "ann"
	delete(macs, "h5")
	macs["bob"] = 5
	has(t, b, names, macs)
}

func TestFullOfOneKind(t *testing.T) {
	b, c := user.New(10), user.New(10)
	var names []string
	macs := map[string]api.Mac{}
	for i := range 16 {
		users(t, b, number(i), key("n"), api.OK)
		hosts(t, c, number(i), api.Mac(i), api.OK)
		names = append(names, number(i))
		macs[number(i)] = api.Mac(i)
	}
	users(t, b, "ann", key("ann"), api.ErrFull)
	hosts(t, c, "ann", 77, api.ErrFull)
	has(t, b, names, nil)
	has(t, c, nil, macs)
	hosts(t, b, "ann", 77, api.OK)
	users(t, c, "ann", key("ann"), api.OK)
	has(t, b, names, map[string]api.Mac{"ann": 77})
	has(t, c, []string{"ann"}, macs)
}

func TestRevoke(t *testing.T) {
	b := user.New(10)
	for _, name := range []string{"ann", "bob", "eve"} {
		users(t, b, name, key(name), api.OK)
	}
	hosts(t, b, "h1", 7, api.OK)
	hosts(t, b, "h2", 8, api.OK)
	revokes(t, b, "zoe", false)
	revokes(t, b, "an", false)
	revokes(t, b, "bob", true)
	has(t, b, []string{"ann", "eve"}, map[string]api.Mac{"h1": 7, "h2": 8})
	revokes(t, b, "h1", true)
	has(t, b, []string{"ann", "eve"}, map[string]api.Mac{"h2": 8})
	for range 2 {
		for _, name := range []string{"bob", "h1"} { // they are gone for good
			revokes(t, b, name, false)
			users(t, b, name, key(name), api.ErrState)
			hosts(t, b, name, 99, api.ErrState)
			hosts(t, b, name, 8, api.ErrState) // ahead of ErrThere
			begins(t, b, name, 7, 5, 100, api.ErrAuth)
			proves(t, b, name, talk.Response, 7, 11, 5, right(name, 7, 11, 5), false)
		}
	}
	users(t, b, "zoe", key("zoe"), api.OK) // a name that nobody had was not revoked
	hosts(t, b, "an", 7, api.OK)
	has(t, b, []string{"ann", "eve", "zoe"}, map[string]api.Mac{"h2": 8, "an": 7})
}

// Who is about to log in as somebody who is revoked is not any more, wherever it is; all others are.
func TestRevokeWhoIsAboutToLogIn(t *testing.T) {
	b := user.New(10)
	for _, name := range []string{"ann", "bob"} {
		users(t, b, name, key(name), api.OK)
	}
	hosts(t, b, "h1", 1, api.OK)
	for m := range api.Mac(64) {
		begins(t, b, []string{"ann", "bob"}[m%2], m, 5, 100, api.OK)
	}
	revokes(t, b, "h1", true) // it is no user's name
	begins(t, b, "bob", 99, 5, 100, api.ErrFull)
	revokes(t, b, "ann", true)
	for m := api.Mac(64); m < 96; m++ {
		begins(t, b, "bob", m, 5, 100, api.OK)
	}
	begins(t, b, "bob", 99, 5, 100, api.ErrFull)
	for m := range api.Mac(96) {
		name, want := "bob", api.OK
		if m < 64 && m%2 == 0 {
			name, want = "ann", api.ErrAuth
		}
		finishes(t, b, name, m, 11, 5, right(name, m, 11, 5), 100, want)
	}
}

func TestRevokeMost(t *testing.T) {
	b := user.New(10)
	for i := range 4096 {
		if i%2 == 0 {
			users(t, b, number(i), key("n"), api.OK)
		} else {
			hosts(t, b, number(i), 7, api.OK)
		}
		revokes(t, b, number(i), true)
	}
	users(t, b, "ann", key("ann"), api.OK)
	hosts(t, b, "h1", 7, api.OK)
	begins(t, b, "ann", 7, 5, 100, api.OK)
	for range 2 {
		revokes(t, b, "ann", false)
		revokes(t, b, "h1", false)
		revokes(t, b, "n0", false)
		has(t, b, []string{"ann"}, map[string]api.Mac{"h1": 7})
	}
	finishes(t, b, "ann", 7, 11, 5, right("ann", 7, 11, 5), 100, api.OK)
	for i := range 4096 {
		users(t, b, number(i), key("n"), api.ErrState)
		hosts(t, b, number(i), 8, api.ErrState)
	}
	has(t, b, []string{"ann"}, map[string]api.Mac{"h1": 7})
}

// P24.3.

func TestNamesRise(t *testing.T) {
	l := []string{"b", "a9", "a", "z", "aa", "ab", "a10", "abcdefgh", "abcdefg", "b1", "m"}
	b, c := user.New(10), user.New(10)
	macs := map[string]api.Mac{}
	for i, name := range l {
		users(t, b, name, key(name), api.OK)
		hosts(t, c, name, api.Mac(50-i), api.OK)
		macs[name] = api.Mac(50 - i)
		has(t, b, l[:i+1], nil)
		has(t, c, nil, macs)
	}
	want := []string{"a", "a10", "a9", "aa", "ab", "abcdefg", "abcdefgh", "b", "b1", "m", "z"}
	if u, h := b.Users(), c.Hosts(); !slices.Equal(u, want) || !slices.Equal(h, want) {
		t.Error(u, h)
	}
}

// The rules that hold everywhere.

func TestNoListIsShared(t *testing.T) {
	b := user.New(10)
	users(t, b, "ann", key("ann"), api.OK)
	users(t, b, "bob", key("bob"), api.OK)
	hosts(t, b, "h1", 7, api.OK)
	hosts(t, b, "h2", 8, api.OK)
	u, h := b.Users(), b.Hosts()
	for _, l := range [][]string{b.Users(), b.Hosts()} {
		for i := range l[:cap(l)] {
			l[:cap(l)][i] = "eve"
		}
	}
	has(t, b, []string{"ann", "bob"}, map[string]api.Mac{"h1": 7, "h2": 8})
	revokes(t, b, "ann", true)
	revokes(t, b, "h1", true)
	if !slices.Equal(u, []string{"ann", "bob"}) || !slices.Equal(h, []string{"h1", "h2"}) {
		t.Error(u, h)
	}
}

func TestTwoBooksAreTwo(t *testing.T) {
	a, b := user.New(10), user.New(10)
	users(t, a, "ann", key("ann"), api.OK)
	hosts(t, a, "h1", 7, api.OK)
	has(t, b, nil, nil)
	users(t, b, "ann", key("ann"), api.OK)
	begins(t, a, "ann", 7, 5, 100, api.OK)
	finishes(t, b, "ann", 7, 11, 5, right("ann", 7, 11, 5), 100, api.ErrAuth)
	b.Forget()
	revokes(t, b, "ann", true)
	has(t, a, []string{"ann"}, map[string]api.Mac{"h1": 7})
	finishes(t, a, "ann", 7, 11, 5, right("ann", 7, 11, 5), 100, api.OK)
}

// P1: calls end at all arguments, also of a book that New did not make.
func TestAnyArguments(t *testing.T) {
	times := []int64{math.MinInt64, -api.MaxTime, -1, 0, 1, api.MaxTime, api.MaxTime + 1, math.MaxInt64}
	for _, now := range times {
		for _, b := range []*user.Book{nil, {}, user.New(now), user.New(10)} {
			for _, name := range append(some(), noNames()...) {
				b.User(name, talk.Key{})
				for _, m := range append(noAddresses(), 0, 7) {
					for i, kind := range []int{math.MinInt, -1, 0, talk.Response, talk.Logout, 256 + talk.Response, math.MaxInt} {
						b.Begin(name, m, uint64(kind), now)
						b.Finish(name, m, api.Ip(m), uint64(kind+i%2), talk.Proof(talk.Key{}, kind, name, uint64(m), m, 0), now)
						b.Proves(name, kind, m, api.Ip(kind), uint64(m), uint64(kind))
					}
					b.Locked(name, now)
					b.Host(name, m)
					b.HostOf(m)
				}
				b.Is(name)
				b.Users()
				b.Hosts()
				if name == "eve" {
					b.Forget()
					b.Revoke(name)
				}
			}
		}
	}
}
