package state_test

import (
	"math/rand"
	"slices"
	"testing"

	"ostiary/api"
	"ostiary/audit"
	"ostiary/pool"
	"ostiary/state"
	"ostiary/talk"
)

// model is a state as the chapter tells it, of records that may be: it keeps what has is asked with.
type model struct{ want }

func newModel() *model {
	return &model{want{users: map[string]talk.Key{}, hosts: map[string]api.Mac{}}}
}

func (m *model) named(name string) bool {
	_, u := m.users[name]
	_, h := m.hosts[name]
	return u || h
}

func (m *model) apply(r audit.Rec) api.Errno {
	switch r.Kind {
	case audit.Epoch:
		if r.Epoch <= m.epoch {
			return api.ErrStale
		}
		m.epoch = r.Epoch
	case audit.Policy:
		m.policy = r.Text
	case audit.User, audit.Host:
		return m.more(r)
	case audit.Revoke:
		if !m.named(r.Name) {
			return api.ErrNone
		}
		if len(m.revoked) >= 64 {
			return api.ErrFull
		}
		delete(m.users, r.Name)
		delete(m.hosts, r.Name)
		m.revoked = append(m.revoked, r.Name)
	case audit.Lease:
		left := []pool.Lease{{Mac: r.Mac, Ip: r.Ip, Until: r.Until}}
		for _, l := range m.leases {
			if l.Mac != r.Mac && l.Ip != r.Ip {
				left = append(left, l)
			}
		}
		if len(left) > 1024 {
			return api.ErrFull
		}
		m.leases = left
	case audit.Unlet:
		i := slices.IndexFunc(m.leases, func(l pool.Lease) bool { return l.Mac == r.Mac && l.Ip == r.Ip })
		if i < 0 {
			return api.ErrNone
		}
		m.leases = slices.Delete(slices.Clone(m.leases), i, i+1)
	}
	return api.OK
}

func (m *model) more(r audit.Rec) api.Errno {
	is := r.Kind == audit.Host
	taken := m.named(r.Name)
	for _, x := range m.hosts {
		taken = taken || is && x == r.Mac
	}
	switch {
	case slices.Contains(reserved(), r.Name) || is && r.Mac == api.Anybody:
		return api.ErrArg
	case slices.Contains(m.revoked, r.Name):
		return api.ErrState
	case taken:
		return api.ErrThere
	case !is && len(m.users) >= 16 || is && len(m.hosts) >= 16:
		return api.ErrFull
	}
	if is {
		m.hosts[r.Name] = r.Mac
	} else {
		m.users[r.Name] = talk.Key{A: r.A, B: r.B}
	}
	return api.OK
}

// dice throws records of few names and addresses, and now and then wrong ones.
type dice struct {
	*rand.Rand
	names, macs, ips int
}

func (d dice) name() string {
	if d.Intn(25) == 0 {
		l := reserved()
		return l[d.Intn(len(l))]
	}
	return name(d.Intn(d.names))
}

func (d dice) mac() api.Mac {
	if d.Intn(25) == 0 {
		return api.Anybody
	}
	return api.Mac(d.Intn(d.macs))
}

func (d dice) rec(m *model) audit.Rec {
	var r audit.Rec
	switch k := d.Intn(100); {
	case k < 5:
		r = epoch(max(m.epoch, 1) + uint32(d.Intn(4)) - 1)
	case k < 8:
		r = policy([]string{"", "x", "y"}[d.Intn(3)])
	case k < 25:
		r = user(d.name(), uint64(d.Intn(3)), uint64(d.Intn(3)))
	case k < 42:
		r = host(d.name(), d.mac())
	case k < 50:
		r = revoke(d.name())
		if l := append(sorted(m.users), sorted(m.hosts)...); len(l) > 0 && d.Intn(2) == 0 {
			r = revoke(l[d.Intn(len(l))])
		}
	case k < 75:
		r = lease(d.mac(), api.Ip(d.Intn(d.ips)), d.Int63n(100))
	case k < 90:
		r = unlet(d.mac(), api.Ip(d.Intn(d.ips)))
		if len(m.leases) > 0 && d.Intn(2) == 0 {
			l := m.leases[d.Intn(len(m.leases))]
			r = unlet(l.Mac, l.Ip)
		}
	case k < 95:
		l := others()
		r = l[d.Intn(len(l))]
	default:
		l := broken()
		return l[d.Intn(len(l))]
	}
	r.Time = d.Int63n(api.MaxTime)
	return r
}

func TestByChance(t *testing.T) {
	type what struct {
		kind int
		e    api.Errno
	}
	counts := map[what]int{}
	for seed := range int64(60) {
		d := dice{rand.New(rand.NewSource(seed)), []int{8, 40, 300}[seed%3], 4 + int(seed%40), 4 + int(seed%7)}
		m, s := newModel(), state.New()
		for i := range 30 * int(seed%3) { // so that many are revoked
			for _, r := range []audit.Rec{user(name(500+i), 1, 2), revoke(name(500 + i))} {
				m.apply(r)
				applies(t, s, r)
			}
		}
		for i := range 400 {
			r := d.rec(m)
			e := api.ErrArg
			if audit.May(r) {
				e = m.apply(r)
				counts[what{r.Kind, e}]++
			}
			if got := s.Apply(r); got != e {
				t.Errorf("Apply(%+v): %d, not %d", r, got, e)
			}
			if has(t, s, m.want); i%20 == 0 {
				again(t, s, d.Int63n(api.MaxTime)) // P28.4
			}
			if t.Failed() {
				t.FailNow()
			}
		}
	}
	for _, w := range []what{
		{audit.Epoch, api.OK}, {audit.Epoch, api.ErrStale}, {audit.Policy, api.OK}, {audit.Lease, api.OK}, {audit.Unlet, api.OK}, {audit.Unlet, api.ErrNone},
		{audit.User, api.OK}, {audit.User, api.ErrArg}, {audit.User, api.ErrState}, {audit.User, api.ErrThere}, {audit.User, api.ErrFull},
		{audit.Host, api.OK}, {audit.Host, api.ErrArg}, {audit.Host, api.ErrState}, {audit.Host, api.ErrThere}, {audit.Host, api.ErrFull},
		{audit.Revoke, api.OK}, {audit.Revoke, api.ErrNone}, {audit.Revoke, api.ErrFull},
	} {
		if counts[w] < 30 {
			t.Error("too few:", w, counts)
		}
	}
}

// P28.5: two states with the same records, of which one is told others, too, that are refused, are the same.
func TestRefusedOnesPlayNoPart(t *testing.T) {
	for seed := range int64(40) {
		d := dice{rand.New(rand.NewSource(seed)), 40, 20, 6}
		m, a, b := newModel(), state.New(), state.New()
		for range 200 {
			r := d.rec(m)
			if a.Apply(r) != api.OK {
				continue
			}
			m.apply(r)
			applies(t, b, r)
		}
		alike(t, a, b, true)
	}
}
