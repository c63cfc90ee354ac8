package pool_test

import (
	"cmp"
	"math/rand"
	"slices"
	"testing"

	"ostiary/api"
	"ostiary/pool"
)

// model is a pool as the chapter tells it: a plain list of leases, as they came.
type model struct {
	base   int64
	n      int
	ticks  int64
	leases []pool.Lease
}

func (m *model) in(ip api.Ip) bool {
	for i := 1; i <= m.n; i++ {
		if m.base+int64(i) == int64(ip) {
			return true
		}
	}
	return false
}

func (m *model) find(which func(pool.Lease) bool) (pool.Lease, bool) {
	if i := slices.IndexFunc(m.leases, which); i >= 0 {
		return m.leases[i], true
	}
	return none, false
}

func of(mac api.Mac) func(pool.Lease) bool {
	return func(l pool.Lease) bool { return l.Mac == mac }
}

func at(ip api.Ip) func(pool.Lease) bool {
	return func(l pool.Lease) bool { return l.Ip == ip }
}

// without takes out leases, and tells them by their addresses.
func (m *model) without(gone func(pool.Lease) bool) []pool.Lease {
	var out, left []pool.Lease
	for _, l := range m.leases {
		if gone(l) {
			out = append(out, l)
		} else {
			left = append(left, l)
		}
	}
	m.leases = left
	slices.SortFunc(out, byIp)
	return out
}

func byIp(a, b pool.Lease) int { return cmp.Compare(a.Ip, b.Ip) }

func (m *model) offer(mac api.Mac, now int64) (api.Ip, api.Errno) {
	if l, ok := m.find(of(mac)); ok {
		return l.Ip, api.OK
	}
	for i := 1; i <= m.n; i++ {
		ip := api.Ip(m.base + int64(i))
		if l, ok := m.find(at(ip)); !ok || l.Until <= now {
			return ip, api.OK
		}
	}
	return 0, api.ErrFull
}

func (m *model) grant(mac api.Mac, ip api.Ip, now int64) (int64, api.Errno) {
	if !m.in(ip) {
		return 0, api.ErrRange
	}
	if l, ok := m.find(at(ip)); ok && l.Mac != mac && now < l.Until {
		return 0, api.ErrThere
	}
	m.without(func(l pool.Lease) bool { return l.Mac == mac || l.Ip == ip })
	m.leases = append(m.leases, let(mac, ip, now+m.ticks))
	return now + m.ticks, api.OK
}

func (m *model) put(l pool.Lease) api.Errno {
	_, a := m.find(of(l.Mac))
	_, b := m.find(at(l.Ip))
	switch {
	case !m.in(l.Ip):
		return api.ErrRange
	case a || b:
		return api.ErrThere
	}
	m.leases = append(m.leases, l)
	return api.OK
}

// dice throws arguments: of few machines and addresses, and now and then wrong ones.
type dice struct {
	*rand.Rand
	m   *model
	now int64
}

func (d *dice) mac() api.Mac { return api.Mac(d.Intn(d.m.n + 3)) }

func (d *dice) ip() api.Ip {
	if d.Intn(20) == 0 {
		l := outside(api.Ip(d.m.base), d.m.n)
		return l[d.Intn(len(l))]
	}
	return api.Ip(d.m.base + 1 + d.Int63n(int64(d.m.n)))
}

func TestByChance(t *testing.T) {
	counts := map[string]int{}
	for seed := range int64(120) {
		r := rand.New(rand.NewSource(seed))
		base := []int64{0, 10, 1 << 31, lastIp - 64}[r.Intn(4)]
		m := &model{base: base, n: 1 + r.Intn(8), ticks: 1 + r.Int63n(60)}
		if seed%10 == 0 {
			m.n = 64
		}
		p := makes(t, api.Ip(base), m.n, m.ticks)
		d := &dice{r, m, 0}
		for range 250 {
			step(t, d, p, counts)
			slices.SortFunc(m.leases, byIp)
			has(t, p, m.leases...)
			if t.Failed() {
				t.FailNow()
			}
		}
	}
	for _, what := range []string{"offered", "full", "granted", "granted there", "granted range", "taken over", "freed", "not freed", "over", "put", "put there", "put range"} {
		if counts[what] < 100 {
			t.Error("too few:", what, counts)
		}
	}
}

// step does one thing by chance to both.
func step(t *testing.T, d *dice, p *pool.Pool, counts map[string]int) {
	t.Helper()
	d.now += d.Int63n(4)
	mac, ip := d.mac(), d.ip()
	switch k := d.Intn(16); {
	case k < 4:
		want, e := d.m.offer(mac, d.now)
		offers(t, p, mac, d.now, want, e)
		counts[map[api.Errno]string{api.OK: "offered", api.ErrFull: "full"}[e]]++
		if e == api.OK && d.Intn(2) == 0 { // P23.6
			d.m.grant(mac, want, d.now)
			grants(t, p, mac, want, d.now, d.now+d.m.ticks, api.OK)
		}
	case k < 10:
		l, was := d.m.find(at(ip))
		want, e := d.m.grant(mac, ip, d.now)
		grants(t, p, mac, ip, d.now, want, e)
		counts[map[api.Errno]string{api.OK: "granted", api.ErrThere: "granted there", api.ErrRange: "granted range"}[e]]++
		if e == api.OK && was && l.Mac != mac {
			counts["taken over"]++
		}
	case k < 12:
		want := append(d.m.without(of(mac)), none)
		frees(t, p, mac, want[0])
		counts[[]string{"not freed", "freed"}[len(want)-1]]++
	case k < 13:
		want := d.m.without(func(l pool.Lease) bool { return l.Until <= d.now })
		ticks(t, p, d.now, want...)
		counts["over"] += len(want)
	default:
		l := let(mac, ip, d.now+d.Int63n(100)-20)
		e := d.m.put(l)
		puts(t, p, l, e)
		counts[map[api.Errno]string{api.OK: "put", api.ErrThere: "put there", api.ErrRange: "put range"}[e]]++
	}
}
