package bind_test

import (
	"cmp"
	"math"
	"slices"
	"strings"
	"testing"

	"ostiary/api"
	"ostiary/bind"
)

const lastIp = math.MaxUint32

// none is what is told where nobody is.
var none bind.Binding

func port(sw, n int) api.Place { return api.Place{Sw: sw, Port: n} }

// at is a machine with nobody logged in.
func at(m api.Mac, ip api.Ip, p api.Place, host string) bind.Binding {
	return bind.Binding{Mac: m, Ip: ip, At: p, Host: host, Until: 100}
}

// with is the same machine, with somebody logged in.
func with(b bind.Binding, user string) bind.Binding {
	b.User = user
	return b
}

func till(b bind.Binding, until int64) bind.Binding {
	b.Until = until
	return b
}

// The three that most tests begin with, in the order of Mac, and in no other one.
var (
	h1 = at(7, 13, port(2, 1), "h1")
	h2 = at(8, 11, port(1, 2), "h2")
	h3 = at(9, 12, port(1, 1), "h3")
)

// three is a table with h1 to h3; ann is at h1, bob at h3.
func three(t *testing.T) (*bind.Table, []bind.Binding) {
	t.Helper()
	b := bind.New()
	l := []bind.Binding{with(h1, "ann"), h2, with(h3, "bob")}
	for _, i := range []int{1, 2, 0} {
		puts(t, b, l[i], api.OK)
	}
	return b, l
}

func same(t *testing.T, what string, l, want []bind.Binding) {
	t.Helper()
	if !slices.Equal(l, want) {
		t.Errorf("%s: %v, not %v", what, l, want)
	}
}

// puts wants an error, and those that went.
func puts(t *testing.T, b *bind.Table, x bind.Binding, err api.Errno, gone ...bind.Binding) {
	t.Helper()
	l, e := b.Put(x)
	if e != err {
		t.Errorf("Put(%v): %d, not %d", x, e, err)
	}
	same(t, "Put", l, gone)
}

func logsIn(t *testing.T, b *bind.Table, m api.Mac, user string, want bool) {
	t.Helper()
	if ok := b.Login(m, user); ok != want {
		t.Errorf("Login(%d, %q): %t", m, user, ok)
	}
}

// logsOut wants a binding, or none.
func logsOut(t *testing.T, b *bind.Table, m api.Mac, want bind.Binding) {
	t.Helper()
	if x, ok := b.Logout(m); x != want || ok != (want != none) {
		t.Errorf("Logout(%d): %v, %t; not %v", m, x, ok, want)
	}
}

func checks(t *testing.T, b *bind.Table, p api.Place, m api.Mac, ip api.Ip, want bind.Binding, err api.Errno) {
	t.Helper()
	if x, e := b.Check(p, m, ip); x != want || e != err {
		t.Errorf("Check(%v, %d, %d): %v, %d; not %v, %d", p, m, ip, x, e, want, err)
	}
}

// has fails unless just these are bound, and each call that asks says so.
func has(t *testing.T, b *bind.Table, l ...bind.Binding) {
	t.Helper()
	l = slices.Clone(l)
	slices.SortFunc(l, byMac)
	same(t, "All", b.All(), l)
	byIp, byPort, macs := map[api.Ip]bind.Binding{}, map[api.Place]bind.Binding{}, map[api.Mac]bool{}
	for _, x := range l {
		byIp[x.Ip], byPort[x.At], macs[x.Mac] = x, x, true
	}
	if len(byIp) != len(l) || len(byPort) != len(l) || len(macs) != len(l) { // P25.5
		t.Errorf("two have something in common: %v", l)
	}
	for _, ip := range append(ips(), keys(byIp)...) {
		want, is := byIp[ip]
		if x, ok := b.Of(ip); x != want || ok != is {
			t.Errorf("Of(%d): %v, %t; not %v, %t", ip, x, ok, want, is)
		}
	}
	for _, p := range append(places(), keys(byPort)...) {
		want, is := byPort[p]
		if x, ok := b.At(p); x != want || ok != is {
			t.Errorf("At(%v): %v, %t; not %v, %t", p, x, ok, want, is)
		}
	}
	checksAll(t, b, byPort)
}

// checksAll asks at each place for whoever is anywhere, and for nobody's addresses (P25.4).
func checksAll(t *testing.T, b *bind.Table, byPort map[api.Place]bind.Binding) {
	t.Helper()
	for _, p := range append(places(), keys(byPort)...) {
		x, is := byPort[p]
		if !is {
			checks(t, b, p, 0, 0, none, api.ErrNone)
		}
		for _, y := range byPort {
			switch {
			case !is:
				checks(t, b, p, y.Mac, y.Ip, none, api.ErrNone)
			case x != y:
				checks(t, b, p, y.Mac, y.Ip, none, api.ErrSpoof)
				checks(t, b, p, y.Mac, x.Ip, none, api.ErrSpoof)
				checks(t, b, p, x.Mac, y.Ip, none, api.ErrSpoof)
			case x.User == "":
				checks(t, b, p, x.Mac, x.Ip, x, api.ErrAuth)
			default:
				checks(t, b, p, x.Mac, x.Ip, x, api.OK)
			}
		}
	}
}

func byMac(a, b bind.Binding) int { return cmp.Compare(a.Mac, b.Mac) }

func keys[K comparable](m map[K]bind.Binding) []K {
	var l []K
	for k := range m {
		l = append(l, k)
	}
	return l
}

// ips are some that are asked for.
func ips() []api.Ip {
	l := []api.Ip{lastIp, lastIp - 1, 1 << 31, 256 + 11, 1<<16 + 11}
	for ip := range api.Ip(30) {
		l = append(l, ip)
	}
	return l
}

// places are all ports that there may be, and some that may not.
func places() []api.Place {
	l := noPlaces()
	for sw := range api.MaxSwitch {
		for n := range api.MaxPort {
			l = append(l, port(sw+1, n+1))
		}
	}
	return l
}

func noPlaces() []api.Place {
	var l []api.Place
	for _, n := range []int{math.MinInt, -1, 0, api.MaxPort + 1, 257, math.MaxInt} {
		l = append(l, port(n, 1), port(1, n), port(n, n))
	}
	return append(l, port(0, 16), port(2, -7), port(1, 10), port(9, -15))
}

// some may be names.
func some() []string {
	return []string{"a", "z", "ann", "h1", "abcdefgh", "a1234567", "z9", "any", "tcp"}
}

// noNames may not be names.
func noNames() []string {
	return []string{"1", "1a", "Ann", "aNn", "abcdefghi", "a b", " ann", "ann ", "a-b", "ä", "aä", "a\x00", "\x00", "a`", "a{", strings.Repeat("a", 300)}
}

func TestExample(t *testing.T) {
	b := bind.New()
	puts(t, b, at(7, 11, port(1, 2), "h1"), api.OK)
	logsIn(t, b, 7, "ann", true)
	checks(t, b, port(1, 2), 7, 11, with(at(7, 11, port(1, 2), "h1"), "ann"), api.OK)
	checks(t, b, port(1, 3), 7, 11, none, api.ErrNone)
	checks(t, b, port(1, 2), 8, 11, none, api.ErrSpoof)
}

// Of a nil table.
func TestNilTable(t *testing.T) {
	var b *bind.Table
	puts(t, b, h1, api.ErrNil)
	puts(t, b, none, api.ErrNil)
	logsIn(t, b, 7, "ann", false)
	logsOut(t, b, 7, none)
	for _, p := range places() {
		checks(t, b, p, 7, 13, none, api.ErrNil)
		if x, ok := b.At(p); x != none || ok {
			t.Error(x, ok)
		}
		same(t, "Leave", b.Leave(p), nil)
	}
	for _, ip := range ips() {
		if x, ok := b.Of(ip); x != none || ok {
			t.Error(x, ok)
		}
	}
	same(t, "Leave", b.Leave(), nil)
	same(t, "Forget", b.Forget("h1"), nil)
	same(t, "Forget", b.Forget(""), nil)
	same(t, "Tick", b.Tick(math.MaxInt64), nil)
	same(t, "All", b.All(), nil)
}

func TestNew(t *testing.T) {
	b := bind.New()
	has(t, b)
	logsIn(t, b, 0, "ann", false)
	logsOut(t, b, 0, none)
	same(t, "Leave", b.Leave(places()...), nil)
	same(t, "Forget", b.Forget("h1"), nil)
	same(t, "Tick", b.Tick(math.MaxInt64), nil)
	has(t, b)
}

// P25.1.

func TestPut(t *testing.T) {
	b, l := three(t)
	has(t, b, l...)
	for _, host := range some() {
		for _, user := range append(some(), "") {
			x := with(at(20, 20, port(3, 3), host), user)
			b := bind.New()
			puts(t, b, x, api.OK)
			has(t, b, x)
		}
	}
	for _, m := range []api.Mac{0, 1, 1 << 32, 1<<32 + 7, 1 << 47, api.Anybody - 1} {
		for _, ip := range []api.Ip{0, 1, 1 << 31, lastIp} {
			for _, until := range []int64{math.MinInt64, -1, 0, api.MaxTime, math.MaxInt64} {
				b := bind.New()
				x := till(at(m, ip, port(8, 8), "h1"), until)
				puts(t, b, x, api.OK)
				has(t, b, x)
			}
		}
	}
}

func TestPutOfNone(t *testing.T) {
	b, l := three(t)
	for _, m := range []api.Mac{api.Anybody, api.Anybody + 1, 1<<48 + 7, 1 << 63, math.MaxUint64} {
		puts(t, b, at(m, 13, port(2, 1), "h1"), api.ErrArg)
	}
	for _, p := range noPlaces() {
		puts(t, b, at(7, 13, p, "h1"), api.ErrArg)
	}
	puts(t, b, at(7, 13, port(2, 1), ""), api.ErrArg)
	puts(t, b, none, api.ErrArg)
	for _, name := range noNames() {
		puts(t, b, at(7, 13, port(2, 1), name), api.ErrArg)
		puts(t, b, with(h1, name), api.ErrArg)
		puts(t, b, with(at(20, 20, port(3, 3), name), "ann"), api.ErrArg)
	}
	has(t, b, l...)
}

// What has its Mac, its Ip or its port goes, and nothing else.
func TestPutInPlaceOfOthers(t *testing.T) {
	for _, c := range []struct {
		x    bind.Binding
		gone []int
	}{
		{at(20, 20, port(3, 3), "h9"), nil},
		{at(7, 20, port(3, 3), "h9"), []int{0}},  // Mac
		{at(20, 13, port(3, 3), "h9"), []int{0}}, // Ip
		{at(20, 20, port(2, 1), "h9"), []int{0}}, // port
		{at(8, 11, port(3, 3), "h9"), []int{1}},
		{at(7, 11, port(3, 3), "h9"), []int{0, 1}},
		{at(9, 11, port(3, 3), "h9"), []int{1, 2}},
		{at(20, 12, port(2, 1), "h9"), []int{0, 2}},
		{at(7, 11, port(1, 1), "h9"), []int{0, 1, 2}},
		{at(9, 13, port(1, 2), "h9"), []int{0, 1, 2}},
		{at(20, 20, port(1, 3), "h1"), nil}, // two machines may have one name
		{at(20, 20, port(2, 2), "h9"), nil},
		{with(at(20, 20, port(3, 3), "h9"), "ann"), nil}, // and one user be at two
		{at(13, 7, port(3, 3), "h9"), nil},
		{at(7+1<<32, 13+1<<16, port(1, 3), "h9"), nil},
		{with(h1, "ann"), []int{0}}, // the very same
		{h1, []int{0}},
		{till(with(h1, "eve"), 5), []int{0}},
	} {
		b, l := three(t)
		var gone []bind.Binding
		left := slices.Clone(l)
		for _, i := range c.gone {
			gone = append(gone, l[i])
			left = slices.DeleteFunc(left, func(x bind.Binding) bool { return x == l[i] })
		}
		puts(t, b, c.x, api.OK, gone...)
		has(t, b, append(left, c.x)...)
	}
}

// There is room for one at each port.
func TestPutMost(t *testing.T) {
	b := bind.New()
	var l []bind.Binding
	for i := range api.MaxSwitch * api.MaxPort {
		x := at(api.Mac(64-i), api.Ip(i*7), port(i/8+1, i%8+1), "h1")
		puts(t, b, x, api.OK)
		l = append(l, x)
	}
	has(t, b, l...)
	x := at(99, 99, port(4, 5), "h2")
	puts(t, b, x, api.OK, l[28])
	l[28] = x
	has(t, b, l...)
	x = at(99, 7, port(1, 1), "h3")
	puts(t, b, x, api.OK, l[1], l[0], l[28])
	l[0] = x
	has(t, b, append(slices.Delete(slices.Clone(l[:28]), 1, 2), l[29:]...)...)
}

func TestLogin(t *testing.T) {
	b, l := three(t)
	logsIn(t, b, 8, "eve", true)
	l[1].User = "eve"
	has(t, b, l...)
	logsIn(t, b, 8, "ann", true) // in place of her; and ann is at h1, too
	l[1].User = "ann"
	has(t, b, l...)
	logsIn(t, b, 7, "ann", true)
	has(t, b, l...)
	for _, name := range some() {
		logsIn(t, b, 9, name, true)
		l[2].User = name
		has(t, b, l...)
	}
	for _, name := range append(noNames(), "") {
		logsIn(t, b, 7, name, false)
		logsIn(t, b, 8, name, false)
	}
	for _, m := range []api.Mac{0, 1, 6, 10, 11, 12, 13, 1<<32 + 7, 1<<48 + 7, api.Anybody, math.MaxUint64} {
		logsIn(t, b, m, "ann", false)
		logsIn(t, b, m, "", false)
	}
	has(t, b, l...)
}

func TestLogout(t *testing.T) {
	b, l := three(t)
	logsOut(t, b, 8, none)
	logsOut(t, b, 10, none)
	logsOut(t, b, 11, none)
	logsOut(t, b, 1<<48+7, none)
	has(t, b, l...)
	logsOut(t, b, 7, l[0])
	l[0].User = ""
	has(t, b, l...)
	logsOut(t, b, 7, none)
	has(t, b, l...)
	logsIn(t, b, 7, "bob", true) // he is at h3, too
	l[0].User = "bob"
	logsOut(t, b, 9, l[2])
	l[2].User = ""
	has(t, b, l...)
}

// P25.2.

func TestCheck(t *testing.T) {
	b, l := three(t)
	checks(t, b, port(2, 1), 7, 13, l[0], api.OK)
	checks(t, b, port(1, 2), 8, 11, h2, api.ErrAuth)
	checks(t, b, port(1, 2), 8, 13, none, api.ErrSpoof) // ahead of ErrAuth
	checks(t, b, port(1, 2), 7, 11, none, api.ErrSpoof)
	for _, m := range []api.Mac{0, 6, 8, 1<<32 + 7, 1<<48 + 7, api.Anybody, math.MaxUint64} {
		checks(t, b, port(2, 1), m, 13, none, api.ErrSpoof)
		checks(t, b, port(2, 2), m, 13, none, api.ErrNone)
	}
	for _, ip := range []api.Ip{0, 11, 12, 14, 256 + 13, 1<<16 + 13, lastIp} {
		checks(t, b, port(2, 1), 7, ip, none, api.ErrSpoof)
		checks(t, b, port(2, 2), 7, ip, none, api.ErrNone)
	}
	for _, p := range noPlaces() {
		checks(t, b, p, 7, 13, none, api.ErrNone)
	}
	checks(t, b, port(1, 1+8), 7, 13, none, api.ErrNone) // it is not port 1 of switch 2
	has(t, b, l...)
}

// Time is Tick's alone: what is over counts till it comes.
func TestCheckOfWhatIsOver(t *testing.T) {
	b := bind.New()
	x := till(with(h1, "ann"), -5)
	puts(t, b, x, api.OK)
	checks(t, b, port(2, 1), 7, 13, x, api.OK)
	logsOut(t, b, 7, x)
	logsIn(t, b, 7, "bob", true)
	has(t, b, with(x, "bob"))
	same(t, "Tick", b.Tick(0), []bind.Binding{with(x, "bob")})
	has(t, b)
}

// P25.3.

func TestLeave(t *testing.T) {
	for _, c := range []struct {
		l    []api.Place
		gone []int
	}{
		{nil, nil},
		{[]api.Place{port(3, 3)}, nil},
		{noPlaces(), nil},
		{[]api.Place{port(2, 1)}, []int{0}},
		{[]api.Place{port(1, 1)}, []int{2}},
		{[]api.Place{port(1, 2), port(1, 2)}, []int{1}},
		{[]api.Place{port(1, 1), port(1, 3), port(2, 1)}, []int{0, 2}},
		{[]api.Place{port(1, 1), port(1, 2)}, []int{1, 2}},
		{[]api.Place{port(1, 1), port(1, 2), port(2, 1)}, []int{0, 1, 2}},
		{places(), []int{0, 1, 2}},
	} {
		b, l := three(t)
		asked := slices.Clone(c.l)
		gone, left := split(l, c.gone)
		same(t, "Leave", b.Leave(asked...), gone)
		has(t, b, left...)
		same(t, "Leave", b.Leave(asked...), nil)
		has(t, b, left...)
		if !slices.Equal(asked, c.l) {
			t.Error("Leave changes what it is told")
		}
	}
}

// split parts those with these numbers from the others.
func split(l []bind.Binding, which []int) (in, out []bind.Binding) {
	for i, x := range l {
		if slices.Contains(which, i) {
			in = append(in, x)
		} else {
			out = append(out, x)
		}
	}
	return in, out
}

func TestForget(t *testing.T) {
	b, l := three(t)
	for _, name := range append(noNames(), "", "eve", "an", "anna", "h", "h11", "h4") {
		same(t, "Forget", b.Forget(name), nil)
	}
	has(t, b, l...)
	same(t, "Forget", b.Forget("h2"), l[1:2])
	has(t, b, l[0], l[2])
	same(t, "Forget", b.Forget("ann"), l[:1])
	has(t, b, h1, l[2])
	same(t, "Forget", b.Forget("ann"), nil)
	same(t, "Forget", b.Forget("h3"), l[2:])
	has(t, b, h1)
	same(t, "Forget", b.Forget("h1"), []bind.Binding{h1})
	has(t, b)
}

// A name that is many users', machines', and both of one: of each binding it is told once.
func TestForgetOfMany(t *testing.T) {
	b := bind.New()
	l := []bind.Binding{
		with(at(1, 1, port(1, 1), "ann"), "bob"),
		with(at(2, 2, port(1, 2), "h2"), "ann"),
		with(at(3, 3, port(1, 3), "ann"), "ann"),
		with(at(4, 4, port(1, 4), "h4"), "bob"),
		at(5, 5, port(1, 5), "ann"),
		with(at(6, 6, port(1, 6), "bob"), "ann"),
		at(7, 7, port(1, 7), "h7"),
	}
	for _, x := range l {
		puts(t, b, x, api.OK)
	}
	same(t, "Forget", b.Forget("ann"), []bind.Binding{l[0], l[1], l[2], l[4], l[5]})
	has(t, b, with(l[1], ""), l[3], with(l[5], ""), l[6])
	same(t, "Forget", b.Forget("bob"), []bind.Binding{l[3], with(l[5], "")})
	has(t, b, with(l[1], ""), with(l[3], ""), l[6])
	logsIn(t, b, 4, "ann", true) // the table knows of nobody that he was forgotten
	has(t, b, with(l[1], ""), with(l[3], "ann"), l[6])
}

func TestTick(t *testing.T) {
	b := bind.New()
	l := []bind.Binding{till(with(h1, "ann"), 50), till(h2, 52), till(with(h3, "bob"), 51)}
	for _, x := range l {
		puts(t, b, x, api.OK)
	}
	for _, now := range []int64{math.MinInt64, -1, 0, 49} {
		same(t, "Tick", b.Tick(now), nil)
	}
	has(t, b, l...)
	same(t, "Tick", b.Tick(50), l[:1])
	has(t, b, l[1:]...)
	same(t, "Tick", b.Tick(50), nil)
	same(t, "Tick", b.Tick(51), l[2:])
	has(t, b, l[1])
	puts(t, b, l[0], api.OK)
	same(t, "Tick", b.Tick(math.MaxInt64), l[:2])
	has(t, b)
	for _, until := range []int64{math.MinInt64, -1, 0, 1, api.MaxTime, math.MaxInt64} {
		x := till(h1, until)
		puts(t, b, x, api.OK)
		if until > math.MinInt64 {
			same(t, "Tick", b.Tick(until-1), nil)
		}
		same(t, "Tick", b.Tick(until), []bind.Binding{x})
	}
}

// The rules that hold everywhere.

func TestNoListIsShared(t *testing.T) {
	b, l := three(t)
	spoil := func(l []bind.Binding) {
		for i := range l[:cap(l)] {
			l[:cap(l)][i] = at(99, 99, port(8, 8), "spoilt")
		}
	}
	kept := b.All()
	spoil(b.All())
	has(t, b, l...)
	gone, _ := b.Put(at(7, 11, port(5, 5), "h5"))
	forgot := b.Forget("bob")
	left := b.Leave(port(5, 5))
	over := b.Tick(100)
	has(t, b)
	puts(t, b, h2, api.OK)
	same(t, "All", kept, l)
	same(t, "Put", gone, l[:2])
	same(t, "Forget", forgot, l[2:])
	same(t, "Leave", left, []bind.Binding{at(7, 11, port(5, 5), "h5")})
	same(t, "Tick", over, []bind.Binding{h3})
	for _, l := range [][]bind.Binding{gone, forgot, left, over} {
		spoil(l)
	}
	has(t, b, h2)
	same(t, "All", kept, l)
}

func TestTwoTablesAreTwo(t *testing.T) {
	a, l := three(t)
	b := bind.New()
	has(t, b)
	puts(t, b, at(7, 13, port(2, 1), "h9"), api.OK)
	logsOut(t, a, 7, l[0])
	has(t, b, at(7, 13, port(2, 1), "h9"))
	has(t, a, h1, l[1], l[2])
}

// P1: calls end at all arguments, also of a table that New did not make.
func TestAnyArguments(t *testing.T) {
	full := bind.New()
	for i := range api.MaxSwitch * api.MaxPort {
		full.Put(at(api.Mac(i), api.Ip(i), port(i/8+1, i%8+1), "h1"))
	}
	names := append(append(some(), noNames()...), "")
	for _, b := range []*bind.Table{nil, {}, bind.New(), full} {
		for _, m := range []api.Mac{0, 7, 1 << 47, api.Anybody, 1 << 63, math.MaxUint64} {
			for _, p := range places() {
				b.Put(at(m, api.Ip(m), p, "h1"))
				b.Check(p, m, api.Ip(m))
				b.At(p)
			}
			for _, name := range names {
				b.Login(m, name)
				b.Put(bind.Binding{Mac: m, At: port(1, 1), Host: name, User: name})
				b.Logout(m)
			}
			b.Of(api.Ip(m))
			b.All()
		}
		for _, name := range names {
			b.Forget(name)
		}
		for _, now := range []int64{math.MinInt64, -1, 0, 100, math.MaxInt64} {
			b.Tick(now)
		}
		b.Leave()
		b.Leave(places()...)
	}
}
