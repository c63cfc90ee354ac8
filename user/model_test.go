package user_test

import (
	"fmt"
	"math/rand"
	"slices"
	"testing"

	"ostiary/api"
	"ostiary/lex"
	"ostiary/talk"
	"ostiary/user"
)

// model is a book as the chapter tells it.
type model struct {
	users   []string
	keys    map[string]talk.Key
	hosts   map[string]api.Mac
	revoked map[string]int
	about   map[api.Mac]begun
	fails   map[string]int
	at      map[string]int64 // when somebody was locked
	lock    int64
}

// begun is who is about to log in.
type begun struct {
	name  string
	nonce uint64
}

func (m *model) mayHave(name string) api.Errno {
	_, host := m.hosts[name]
	_, gone := m.revoked[name]
	switch {
	case !talk.Name(name), lex.Reserved(name):
		return api.ErrArg
	case gone:
		return api.ErrState
	case host, slices.Contains(m.users, name):
		return api.ErrThere
	}
	return api.OK
}

func (m *model) user(name string, k talk.Key) api.Errno {
	e := m.mayHave(name)
	if e == api.OK && len(m.users) == 16 {
		e = api.ErrFull
	}
	if e == api.OK {
		m.users = append(m.users, name)
		m.keys[name] = k
	}
	return e
}

func (m *model) host(name string, mac api.Mac) api.Errno {
	e := m.mayHave(name)
	if mac >= 1<<48-1 {
		e = api.ErrArg
	}
	for _, had := range m.hosts {
		if e == api.OK && had == mac {
			e = api.ErrThere
		}
	}
	if e == api.OK && len(m.hosts) == 16 {
		e = api.ErrFull
	}
	if e == api.OK {
		m.hosts[name] = mac
	}
	return e
}

func (m *model) revoke(name string) bool {
	_, host := m.hosts[name]
	i := slices.Index(m.users, name)
	if i < 0 && !host {
		return false
	}
	if i >= 0 {
		m.users = slices.Delete(m.users, i, i+1)
	}
	delete(m.hosts, name)
	m.revoked[name] = 1
	for mac, l := range m.about {
		if l.name == name {
			delete(m.about, mac)
		}
	}
	return true
}

func (m *model) locked(name string, now int64) bool {
	at, ok := m.at[name]
	return ok && slices.Contains(m.users, name) && now < at+m.lock
}

func (m *model) begin(name string, mac api.Mac, nonce uint64, now int64) api.Errno {
	_, there := m.about[mac]
	switch {
	case !slices.Contains(m.users, name):
		return api.ErrAuth
	case m.locked(name, now):
		return api.ErrLocked
	case !there && len(m.about) == 64:
		return api.ErrFull
	}
	m.about[mac] = begun{name, nonce}
	return api.OK
}

func (m *model) finish(name string, mac api.Mac, ip api.Ip, nonce, tag uint64, now int64) api.Errno {
	l, there := m.about[mac]
	delete(m.about, mac)
	switch {
	case !there, l.name != name, l.nonce != nonce:
		return api.ErrAuth
	case m.locked(name, now):
		return api.ErrLocked
	case talk.Proof(m.keys[name], 9, name, nonce, mac, ip) == tag:
		m.fails[name] = 0
		return api.OK
	}
	m.fails[name]++
	if m.fails[name] == 3 {
		m.fails[name] = 0
		m.at[name] = now
	}
	return api.ErrAuth
}

// dice throws arguments: of few names and machines, and now and then wrong ones.
type dice struct {
	*rand.Rand
	names, macs int
	begin       int // of sixty steps so many are up to those that begin
	now         int64
}

func (d *dice) name() string {
	if d.Intn(25) == 0 {
		l := noNames()
		return l[d.Intn(len(l))]
	}
	return fmt.Sprintf("%c%d", 'a'+d.Intn(2), d.Intn(d.names))
}

func (d *dice) mac() api.Mac {
	if d.Intn(40) == 0 {
		l := noAddresses()
		return l[d.Intn(len(l))]
	}
	return api.Mac(d.Intn(d.macs))
}

// about is somebody who is about to log in, if there is one; or anybody.
func (d *dice) about(m *model) (api.Mac, begun) {
	var macs []api.Mac
	for mac := range m.about {
		macs = append(macs, mac)
	}
	if len(macs) == 0 || d.Intn(8) == 0 {
		return d.mac(), begun{d.name(), uint64(d.Intn(3))}
	}
	slices.Sort(macs)
	mac := macs[d.Intn(len(macs))]
	return mac, m.about[mac]
}

func TestByChance(t *testing.T) {
	counts := map[string]int{}
	for seed := range int64(100) {
		d := &dice{rand.New(rand.NewSource(seed)), 2 + int(seed)%40, 10 + int(seed*7)%80, 40, 0}
		if seed%5 == 0 { // at most machines somebody is about to log in
			d.macs, d.begin = 90, 58
		}
		lock := 1 + d.Int63n(40)
		b := user.New(lock)
		m := &model{nil, map[string]talk.Key{}, map[string]api.Mac{}, map[string]int{}, map[api.Mac]begun{}, map[string]int{}, map[string]int64{}, lock}
		for range 600 {
			step(t, d, b, m, counts)
			same(t, d, b, m)
			if t.Failed() {
				t.FailNow()
			}
		}
	}
	for _, what := range []string{"user 0", "user 1", "user 3", "user 4", "user 10", "host 0", "host 1", "host 3", "host 4", "host 10", "begin 0", "begin 4", "begin 41", "begin 42", "finish 0", "finish 41", "finish 42", "revoke true", "revoke false", "locks", "proves", "forget"} {
		if counts[what] < 30 {
			t.Error("too few:", what, counts)
		}
	}
}

// same fails unless the book answers as its model does.
func same(t *testing.T, d *dice, b *user.Book, m *model) {
	t.Helper()
	has(t, b, m.users, m.hosts)
	for _, name := range append(m.users, "a0", "b1", "") {
		for _, now := range []int64{d.now, d.now + d.Int63n(40)} {
			locked(t, b, name, now, m.locked(name, now))
		}
	}
}

// step does one thing by chance to both.
func step(t *testing.T, d *dice, b *user.Book, m *model, counts map[string]int) {
	t.Helper()
	d.now += d.Int63n(3)
	name, mac, nonce := d.name(), d.mac(), uint64(d.Intn(3))
	switch k := d.Intn(60); {
	case k < 8:
		secret := talk.Key{A: d.Uint64(), B: d.Uint64()}
		e := m.user(name, secret)
		users(t, b, name, secret, e)
		counts[fmt.Sprint("user ", int(e))]++
	case k < 14:
		e := m.host(name, mac)
		hosts(t, b, name, mac, e)
		counts[fmt.Sprint("host ", int(e))]++
	case k < 15:
		ok := m.revoke(name)
		revokes(t, b, name, ok)
		counts[fmt.Sprint("revoke ", ok)]++
	case k < 16 && d.Intn(10) == 0:
		m.about = map[api.Mac]begun{}
		b.Forget()
		counts["forget"]++
	case k < d.begin:
		if len(m.users) > 0 && d.Intn(4) > 0 {
			name = m.users[d.Intn(len(m.users))]
		}
		e := m.begin(name, mac, nonce, d.now)
		begins(t, b, name, mac, nonce, d.now, e)
		counts[fmt.Sprint("begin ", int(e))]++
	default:
		answer(t, d, b, m, counts)
	}
}

// answer is one to what somebody was told: mostly the right one, or of the right form, or it is only asked about.
func answer(t *testing.T, d *dice, b *user.Book, m *model, counts map[string]int) {
	t.Helper()
	mac, l := d.about(m)
	ip := api.Ip(d.Intn(3))
	tag := talk.Proof(m.keys[l.name], talk.Response, l.name, l.nonce, mac, ip)
	switch d.Intn(12) {
	case 0:
		l.name = d.name()
	case 1:
		l.nonce++
	case 2, 3, 4, 5:
		tag ^= 1 << d.Intn(64)
	case 6:
		ip++
	}
	if d.Intn(8) == 0 {
		want := slices.Contains(m.users, l.name) && tag == talk.Proof(m.keys[l.name], 9, l.name, l.nonce, mac, ip)
		proves(t, b, l.name, 9, mac, ip, l.nonce, tag, want)
		counts["proves"]++
		return
	}
	was := m.locked(l.name, d.now)
	e := m.finish(l.name, mac, ip, l.nonce, tag, d.now)
	finishes(t, b, l.name, mac, ip, l.nonce, tag, d.now, e)
	counts[fmt.Sprint("finish ", int(e))]++
	if !was && m.locked(l.name, d.now) {
		counts["locks"]++
	}
}
