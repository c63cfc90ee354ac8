package pool_test

import (
	"math"
	"slices"
	"testing"

	"ostiary/api"
	"ostiary/pool"
)

const lastIp = 1<<32 - 1

func let(m api.Mac, ip api.Ip, until int64) pool.Lease {
	return pool.Lease{Mac: m, Ip: ip, Until: until}
}

// none is what is told where nobody has anything.
var none pool.Lease

func makes(t *testing.T, base api.Ip, n int, ticks int64) *pool.Pool {
	t.Helper()
	p, e := pool.New(base, n, ticks)
	if e != api.OK || p == nil {
		t.Fatalf("New(%d, %d, %d): %v, %d", base, n, ticks, p, e)
	}
	return p
}

func makesNone(t *testing.T, base api.Ip, n int, ticks int64) {
	t.Helper()
	if p, e := pool.New(base, n, ticks); e != api.ErrArg || p != nil {
		t.Errorf("New(%d, %d, %d): %v, %d", base, n, ticks, p, e)
	}
}

// offers wants an address, or else an error and no address.
func offers(t *testing.T, p *pool.Pool, m api.Mac, now int64, want api.Ip, err api.Errno) {
	t.Helper()
	if ip, e := p.Offer(m, now); ip != want || e != err {
		t.Errorf("Offer(%d, %d): %d, %d; not %d, %d", m, now, ip, e, want, err)
	}
}

func grants(t *testing.T, p *pool.Pool, m api.Mac, ip api.Ip, now, want int64, err api.Errno) {
	t.Helper()
	if until, e := p.Grant(m, ip, now); until != want || e != err {
		t.Errorf("Grant(%d, %d, %d): %d, %d; not %d, %d", m, ip, now, until, e, want, err)
	}
}

// frees wants a lease, or none.
func frees(t *testing.T, p *pool.Pool, m api.Mac, want pool.Lease) {
	t.Helper()
	if l, ok := p.Free(m); l != want || ok != (want != none) {
		t.Errorf("Free(%d): %v, %t; not %v", m, l, ok, want)
	}
}

func ticks(t *testing.T, p *pool.Pool, now int64, want ...pool.Lease) {
	t.Helper()
	if l := p.Tick(now); !slices.Equal(l, want) {
		t.Errorf("Tick(%d): %v, not %v", now, l, want)
	}
}

func puts(t *testing.T, p *pool.Pool, l pool.Lease, want api.Errno) {
	t.Helper()
	if e := p.Put(l); e != want {
		t.Errorf("Put(%v): %d, not %d", l, e, want)
	}
}

// has fails unless just these are let, and each call that asks says so.
func has(t *testing.T, p *pool.Pool, leases ...pool.Lease) {
	t.Helper()
	if l := p.All(); !slices.Equal(l, leases) {
		t.Errorf("All: %v, not %v", l, leases)
	}
	byIp, byMac := map[api.Ip]pool.Lease{}, map[api.Mac]pool.Lease{}
	for _, l := range leases {
		byIp[l.Ip], byMac[l.Mac] = l, l
	}
	if len(byIp) != len(leases) || len(byMac) != len(leases) { // P23.5
		t.Errorf("an address has two machines, or a machine two addresses: %v", leases)
	}
	for _, ip := range append(ips(), keys(byIp)...) {
		want, is := byIp[ip]
		if l, ok := p.Of(ip); l != want || ok != is {
			t.Errorf("Of(%d): %v, %t; not %v, %t", ip, l, ok, want, is)
		}
	}
	for _, m := range append(macs(), keys(byMac)...) {
		want, is := byMac[m]
		if l, ok := p.Find(m); l != want || ok != is {
			t.Errorf("Find(%d): %v, %t; not %v, %t", m, l, ok, want, is)
		}
	}
}

func keys[K comparable](m map[K]pool.Lease) []K {
	var l []K
	for k := range m {
		l = append(l, k)
	}
	return l
}

// ips are some that are asked for.
func ips() []api.Ip {
	l := []api.Ip{lastIp, lastIp - 1, 1 << 31, 256 + 11, 1<<16 + 11, 1<<31 + 11}
	for ip := range api.Ip(90) {
		l = append(l, ip)
	}
	return l
}

// macs are some that are asked for: of any number of bits.
func macs() []api.Mac {
	l := []api.Mac{1<<32 + 7, api.Anybody - 1, api.Anybody, 1 << 48, 1<<48 + 7, math.MaxUint64}
	for m := range api.Mac(90) {
		l = append(l, m)
	}
	return l
}

func TestExample(t *testing.T) {
	p := makes(t, 10, 2, 50)
	offers(t, p, 7, 0, 11, api.OK)
	grants(t, p, 7, 11, 0, 50, api.OK)
	offers(t, p, 8, 0, 12, api.OK)
	has(t, p, let(7, 11, 50))
	ticks(t, p, 50, let(7, 11, 50))
	has(t, p)
}

// Of a nil pool.
func TestNilPool(t *testing.T) {
	var p *pool.Pool
	for _, m := range macs() {
		offers(t, p, m, 5, 0, api.ErrNil)
		grants(t, p, m, 11, 5, 0, api.ErrNil)
		puts(t, p, let(m, 11, 5), api.ErrNil)
		frees(t, p, m, none)
	}
	for _, ip := range ips() {
		grants(t, p, 7, ip, 5, 0, api.ErrNil)
		puts(t, p, let(7, ip, 5), api.ErrNil)
	}
	ticks(t, p, api.MaxTime)
	has(t, p)
}

// P23.1.

func TestNew(t *testing.T) {
	for n := 1; n <= 64; n++ {
		for _, base := range []api.Ip{0, 1, 10, 1 << 31, lastIp - 64, api.Ip(lastIp - n)} {
			for _, ticks := range []int64{1, 2, 1<<20 - 1, 1 << 20} {
				has(t, makes(t, base, n, ticks))
			}
		}
	}
}

func TestNewOfNone(t *testing.T) {
	for _, n := range []int{math.MinInt, -1 << 32, -64, -1, 0, 65, 66, 128, 256 + 1, 1 << 16, 1<<32 + 1, math.MaxInt} {
		for _, base := range []api.Ip{0, 10, lastIp - 1, lastIp} {
			makesNone(t, base, n, 50)
		}
	}
	for n := 1; n <= 64; n++ {
		for base := lastIp - n + 1; base <= lastIp; base++ {
			makesNone(t, api.Ip(base), n, 50)
		}
	}
	for _, ticks := range []int64{math.MinInt64, -1 << 32, -1 << 20, -1, 0, 1<<20 + 1, 1 << 21, 1 << 32, 1<<32 + 1, api.MaxTime, math.MaxInt64} {
		makesNone(t, 10, 1, ticks)
		makesNone(t, 10, 64, ticks)
	}
}

// P23.2.

// All addresses of a pool are let, the least one first, and no other ones, wherever it begins.
func TestFill(t *testing.T) {
	for _, base := range []api.Ip{0, 10, 1 << 31, lastIp - 64} {
		for _, n := range []int{1, 2, 63, 64} {
			p := makes(t, base, n, 50)
			var all []pool.Lease
			for i := range n {
				ip := base + api.Ip(i) + 1
				m := api.Mac(1000 - i)
				offers(t, p, m, 5, ip, api.OK)
				grants(t, p, m, ip, 5, 55, api.OK)
				all = append(all, let(m, ip, 55))
				has(t, p, all...)
			}
			offers(t, p, 7, 5, 0, api.ErrFull)
			offers(t, p, 7, 54, 0, api.ErrFull)
			has(t, p, all...)
			for i, l := range all {
				offers(t, p, l.Mac, 54, l.Ip, api.OK) // what it has
				grants(t, p, l.Mac, l.Ip, 6, 56, api.OK)
				all[i].Until = 56
			}
			has(t, p, all...)
			for _, ip := range outside(base, n) {
				grants(t, p, 7, ip, 5, 0, api.ErrRange)
				grants(t, p, 1000, ip, 5, 0, api.ErrRange)
				puts(t, p, let(7, ip, 5), api.ErrRange)
			}
			has(t, p, all...)
		}
	}
}

// outside are addresses that are none of the pool's.
func outside(base api.Ip, n int) []api.Ip {
	l := []api.Ip{base, base - 1, base - 64, base + api.Ip(n) + 1, base + api.Ip(n) + 2, base + 65, base + 256 + 1, base + 1<<31, base + 1<<31 + 1}
	return slices.DeleteFunc(append(l, 0, lastIp), func(ip api.Ip) bool { return ip > base && int64(ip) <= int64(base)+int64(n) })
}

// The first address and the last one that there may be.
func TestEnds(t *testing.T) {
	p := makes(t, 0, 1, 50)
	grants(t, p, 7, 0, 5, 0, api.ErrRange)
	grants(t, p, 7, lastIp, 5, 0, api.ErrRange)
	grants(t, p, 7, 1, 5, 55, api.OK)
	p = makes(t, lastIp-1, 1, 50)
	grants(t, p, 7, 0, 5, 0, api.ErrRange)
	grants(t, p, 7, lastIp-1, 5, 0, api.ErrRange)
	offers(t, p, 7, 5, lastIp, api.OK)
	grants(t, p, 7, lastIp, 5, 55, api.OK)
	has(t, p, let(7, lastIp, 55))
}

func TestOfferChangesNothing(t *testing.T) {
	p := makes(t, 10, 2, 50)
	for range 3 {
		offers(t, p, 7, 5, 11, api.OK)
		offers(t, p, 8, 5, 11, api.OK)
		has(t, p)
	}
	grants(t, p, 8, 11, 5, 55, api.OK)
	offers(t, p, 7, 5, 12, api.OK)
	offers(t, p, 7, 55, 11, api.OK) // his is over, but he has it
	offers(t, p, 8, 55, 11, api.OK)
	has(t, p, let(8, 11, 55))
}

// An address is offered from the time on at which its lease is over; what somebody has is offered him ahead of lesser ones.
func TestOfferWhatIsOver(t *testing.T) {
	p := makes(t, 10, 3, 50)
	grants(t, p, 1, 11, 20, 70, api.OK)
	grants(t, p, 2, 12, 10, 60, api.OK)
	grants(t, p, 3, 13, 0, 50, api.OK)
	for _, c := range []struct {
		now  int64
		want api.Ip
		err  api.Errno
	}{{0, 0, api.ErrFull}, {49, 0, api.ErrFull}, {50, 13, api.OK}, {59, 13, api.OK}, {60, 12, api.OK}, {69, 12, api.OK}, {70, 11, api.OK}, {api.MaxTime, 11, api.OK}} {
		offers(t, p, 9, c.now, c.want, c.err)
		offers(t, p, 2, c.now, 12, api.OK)
		offers(t, p, 3, c.now, 13, api.OK)
	}
	frees(t, p, 2, let(2, 12, 60))
	offers(t, p, 9, 50, 12, api.OK) // the least one of both kinds
	offers(t, p, 9, 70, 11, api.OK)
	offers(t, p, 3, 50, 13, api.OK)
	has(t, p, let(1, 11, 70), let(3, 13, 50))
}

func TestGrant(t *testing.T) {
	p := makes(t, 10, 4, 50)
	grants(t, p, 7, 14, 5, 55, api.OK) // it need not have been offered
	grants(t, p, 8, 12, 5, 55, api.OK)
	has(t, p, let(8, 12, 55), let(7, 14, 55))
	grants(t, p, 8, 14, 5, 0, api.ErrThere)
	grants(t, p, 8, 14, 54, 0, api.ErrThere)
	has(t, p, let(8, 12, 55), let(7, 14, 55))
	grants(t, p, 7, 14, 30, 80, api.OK) // longer
	grants(t, p, 8, 12, 80, 130, api.OK)
	has(t, p, let(8, 12, 130), let(7, 14, 80))
	grants(t, p, 7, 14, 1, 51, api.OK) // or less
	has(t, p, let(8, 12, 130), let(7, 14, 51))
	grants(t, p, 7, 11, 2, 52, api.OK) // another one in place of the one that he has
	has(t, p, let(7, 11, 52), let(8, 12, 130))
	grants(t, p, 9, 14, 3, 53, api.OK)
	has(t, p, let(7, 11, 52), let(8, 12, 130), let(9, 14, 53))
	grants(t, p, 9, 15, 3, 0, api.ErrRange) // he has what he had
	grants(t, p, 9, 11, 3, 0, api.ErrThere)
	has(t, p, let(7, 11, 52), let(8, 12, 130), let(9, 14, 53))
}

// What is over may be granted to another one, who has nothing else then; whose it was has nothing.
func TestGrantWhatIsOver(t *testing.T) {
	p := makes(t, 10, 2, 50)
	grants(t, p, 7, 11, 0, 50, api.OK)
	grants(t, p, 8, 12, 20, 70, api.OK)
	grants(t, p, 8, 11, 49, 0, api.ErrThere)
	has(t, p, let(7, 11, 50), let(8, 12, 70))
	grants(t, p, 8, 11, 50, 100, api.OK)
	has(t, p, let(8, 11, 100))
	frees(t, p, 7, none)
	offers(t, p, 7, 50, 12, api.OK)
	grants(t, p, 7, 12, 50, 100, api.OK)
	has(t, p, let(8, 11, 100), let(7, 12, 100))
	ticks(t, p, 70)
	grants(t, p, 8, 12, 100, 150, api.OK) // both are over: 8 takes 7's
	has(t, p, let(8, 12, 150))
	grants(t, p, 8, 12, 150, 200, api.OK) // its own, that is over
	has(t, p, let(8, 12, 200))
}

func TestGrantOfNone(t *testing.T) {
	p := makes(t, 10, 3, 50)
	grants(t, p, 7, 12, 5, 55, api.OK)
	for _, ip := range outside(10, 3) {
		grants(t, p, 7, ip, 5, 0, api.ErrRange)
		grants(t, p, 8, ip, 99, 0, api.ErrRange)
	}
	has(t, p, let(7, 12, 55))
}

func TestTicks(t *testing.T) {
	for _, n := range []int64{1, 2, 50, 1<<20 - 1, 1 << 20} {
		p := makes(t, 10, 2, n)
		for _, now := range []int64{0, 1, 50, 1 << 32, api.MaxTime} {
			grants(t, p, 7, 11, now, now+n, api.OK)
			has(t, p, let(7, 11, now+n))
			ticks(t, p, now+n-1)
			grants(t, p, 8, 11, now+n-1, 0, api.ErrThere)
			ticks(t, p, now+n, let(7, 11, now+n))
			has(t, p)
		}
	}
}

// A machine may have any number, also one that Ethernet has not.
func TestAnyMac(t *testing.T) {
	for _, m := range macs() {
		p := makes(t, 10, 2, 50)
		offers(t, p, m, 5, 11, api.OK)
		grants(t, p, m, 11, 5, 55, api.OK)
		has(t, p, let(m, 11, 55))
		offers(t, p, m^1<<48, 5, 12, api.OK)
		frees(t, p, m^1<<48, none)
		frees(t, p, m, let(m, 11, 55))
		puts(t, p, let(m, 12, 9), api.OK)
		has(t, p, let(m, 12, 9))
	}
}

// P23.3.

func TestFree(t *testing.T) {
	p := makes(t, 10, 3, 50)
	frees(t, p, 7, none)
	grants(t, p, 7, 12, 5, 55, api.OK)
	grants(t, p, 8, 11, 6, 56, api.OK)
	grants(t, p, 9, 13, 7, 57, api.OK)
	frees(t, p, 10, none)
	frees(t, p, 0, none)
	frees(t, p, 7, let(7, 12, 55))
	has(t, p, let(8, 11, 56), let(9, 13, 57))
	frees(t, p, 7, none)
	offers(t, p, 7, 5, 12, api.OK)
	frees(t, p, 8, let(8, 11, 56))
	offers(t, p, 9, 5, 13, api.OK)
	offers(t, p, 7, 5, 11, api.OK)
	frees(t, p, 9, let(9, 13, 57))
	has(t, p)
}

func TestFreeWhatIsOver(t *testing.T) {
	p := makes(t, 10, 1, 50)
	grants(t, p, 7, 11, 0, 50, api.OK)
	offers(t, p, 8, 60, 11, api.OK)
	frees(t, p, 7, let(7, 11, 50))
	ticks(t, p, 60)
	has(t, p)
}

func TestTick(t *testing.T) {
	p := makes(t, 10, 5, 50)
	grants(t, p, 1, 15, 10, 60, api.OK)
	grants(t, p, 2, 11, 12, 62, api.OK)
	grants(t, p, 3, 13, 10, 60, api.OK)
	grants(t, p, 4, 12, 11, 61, api.OK)
	grants(t, p, 5, 14, 13, 63, api.OK)
	ticks(t, p, 0)
	ticks(t, p, 59)
	ticks(t, p, 61, let(4, 12, 61), let(3, 13, 60), let(1, 15, 60)) // by their addresses, not by time or machine
	has(t, p, let(2, 11, 62), let(5, 14, 63))
	ticks(t, p, 61)
	ticks(t, p, api.MaxTime, let(2, 11, 62), let(5, 14, 63))
	ticks(t, p, api.MaxTime)
	has(t, p)
}

func TestPut(t *testing.T) {
	p := makes(t, 10, 4, 50)
	for _, l := range []pool.Lease{let(7, 13, 0), let(8, 11, 1000), let(0, 14, api.MaxTime)} {
		puts(t, p, l, api.OK)
	}
	all := []pool.Lease{let(8, 11, 1000), let(7, 13, 0), let(0, 14, api.MaxTime)}
	has(t, p, all...)
	for _, l := range all {
		puts(t, p, l, api.ErrThere) // the very same
		puts(t, p, let(l.Mac, l.Ip, 5), api.ErrThere)
		puts(t, p, let(l.Mac, 12, l.Until), api.ErrThere) // its Mac has one
		puts(t, p, let(9, l.Ip, l.Until), api.ErrThere)   // somebody has it
	}
	for _, ip := range outside(10, 4) {
		puts(t, p, let(9, ip, 5), api.ErrRange)
		puts(t, p, let(7, ip, 5), api.ErrRange) // ahead of ErrThere
	}
	has(t, p, all...)
	puts(t, p, let(9, 12, 5), api.OK)
	has(t, p, let(8, 11, 1000), let(9, 12, 5), let(7, 13, 0), let(0, 14, api.MaxTime))
}

// A lease that was put is one as others are.
func TestWhatWasPut(t *testing.T) {
	p := makes(t, 10, 2, 50)
	puts(t, p, let(7, 12, 200), api.OK)
	offers(t, p, 7, 5, 12, api.OK)
	offers(t, p, 8, 5, 11, api.OK)
	grants(t, p, 8, 12, 199, 0, api.ErrThere)
	ticks(t, p, 199)
	grants(t, p, 8, 12, 200, 250, api.OK)
	has(t, p, let(8, 12, 250))
	frees(t, p, 8, let(8, 12, 250))
	puts(t, p, let(7, 11, 3), api.OK)
	puts(t, p, let(8, 11, 5), api.ErrThere) // also if it is over
	grants(t, p, 7, 12, 1, 51, api.OK)
	puts(t, p, let(8, 11, 5), api.OK)
	ticks(t, p, 5, let(8, 11, 5))
	frees(t, p, 7, let(7, 12, 51))
	puts(t, p, let(7, 12, 9), api.OK)
	has(t, p, let(7, 12, 9))
}

// P23.4.

func TestFindWhatIsOver(t *testing.T) {
	p := makes(t, 10, 2, 50)
	grants(t, p, 7, 12, 0, 50, api.OK)
	grants(t, p, 8, 11, 100, 150, api.OK)
	offers(t, p, 9, 100, 12, api.OK)
	has(t, p, let(8, 11, 150), let(7, 12, 50)) // Tick has not come
	ticks(t, p, 100, let(7, 12, 50))
	has(t, p, let(8, 11, 150))
}

// P23.6.
func TestWhatIsOfferedIsGranted(t *testing.T) {
	p := makes(t, 10, 3, 7)
	for now := range int64(200) {
		m := api.Mac(now*now*13+now*5) % 6
		ip, e := p.Offer(m, now)
		if e == api.ErrFull {
			if l := p.All(); len(l) != 3 {
				t.Errorf("at %d: it is full, of %v", now, l)
			}
			continue
		}
		if e != api.OK {
			t.Errorf("Offer at %d: %d", now, e)
		}
		grants(t, p, m, ip, now, now+7, api.OK)
		if l, ok := p.Find(m); !ok || l != let(m, ip, now+7) {
			t.Errorf("at %d: %v, %t", now, l, ok)
		}
		has(t, p, p.All()...)
	}
}

// The rules that hold everywhere.

func TestNoListIsShared(t *testing.T) {
	p := makes(t, 10, 3, 50)
	grants(t, p, 7, 11, 5, 55, api.OK)
	grants(t, p, 8, 12, 15, 65, api.OK)
	spoil := func(l []pool.Lease) {
		for i := range l[:cap(l)] {
			l[:cap(l)][i] = let(99, 99, 99)
		}
	}
	kept := p.All()
	spoil(p.All())
	has(t, p, let(7, 11, 55), let(8, 12, 65))
	gone := p.Tick(55)
	spoil(p.All())
	has(t, p, let(8, 12, 65))
	grants(t, p, 9, 13, 60, 110, api.OK)
	if !slices.Equal(gone, []pool.Lease{let(7, 11, 55)}) || !slices.Equal(kept, []pool.Lease{let(7, 11, 55), let(8, 12, 65)}) {
		t.Error(gone, kept)
	}
	spoil(gone)
	has(t, p, let(8, 12, 65), let(9, 13, 110))
}

func TestTwoPoolsAreTwo(t *testing.T) {
	a, b := makes(t, 10, 2, 50), makes(t, 10, 2, 60)
	grants(t, a, 7, 11, 0, 50, api.OK)
	has(t, b)
	offers(t, b, 8, 0, 11, api.OK)
	grants(t, b, 7, 12, 0, 60, api.OK)
	has(t, a, let(7, 11, 50))
	ticks(t, b, 100, let(7, 12, 60))
	has(t, a, let(7, 11, 50))
}

// P1: calls end at all arguments, also of a pool that New did not make.
func TestAnyArguments(t *testing.T) {
	times := []int64{math.MinInt64, -api.MaxTime, -1, 0, 1, api.MaxTime, api.MaxTime + 1, math.MaxInt64}
	for _, p := range []*pool.Pool{nil, {}, makes(t, 0, 64, 1<<20), makes(t, lastIp-64, 64, 1), makes(t, 10, 1, 50)} {
		for _, m := range macs() {
			for _, now := range times {
				p.Offer(m, now)
				for _, ip := range []api.Ip{0, 1, 11, 1 << 31, lastIp - 1, lastIp} {
					p.Put(let(m, ip, now))
					p.Grant(m, ip, now)
					p.Put(let(m+1, ip, now))
					p.Of(ip)
				}
				p.Find(m)
				p.Tick(now)
				p.Free(m)
				p.All()
			}
		}
	}
	for _, base := range []api.Ip{0, 1 << 31, lastIp} {
		for _, n := range times {
			for _, ticks := range times {
				pool.New(base, int(n), ticks)
			}
		}
	}
}
