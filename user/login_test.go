package user_test

import (
	"math"
	"testing"

	"ostiary/api"
	"ostiary/talk"
	"ostiary/user"
)

func begins(t *testing.T, b *user.Book, name string, m api.Mac, nonce uint64, now int64, want api.Errno) {
	t.Helper()
	if e := b.Begin(name, m, nonce, now); e != want {
		t.Errorf("Begin(%q, %d, %d, %d): %d, not %d", name, m, nonce, now, e, want)
	}
}

func finishes(t *testing.T, b *user.Book, name string, m api.Mac, ip api.Ip, nonce, tag uint64, now int64, want api.Errno) {
	t.Helper()
	if e := b.Finish(name, m, ip, nonce, tag, now); e != want {
		t.Errorf("Finish(%q, %d, %d, %d, %x, %d): %d, not %d", name, m, ip, nonce, tag, now, e, want)
	}
}

func proves(t *testing.T, b *user.Book, name string, kind int, m api.Mac, ip api.Ip, nonce, tag uint64, want bool) {
	t.Helper()
	if ok := b.Proves(name, kind, m, ip, nonce, tag); ok != want {
		t.Errorf("Proves(%q, %d, %d, %d, %d, %x): %t", name, kind, m, ip, nonce, tag, ok)
	}
}

func locked(t *testing.T, b *user.Book, name string, now int64, want bool) {
	t.Helper()
	if ok := b.Locked(name, now); ok != want {
		t.Errorf("Locked(%q, %d): %t", name, now, ok)
	}
}

// fails is somebody who answers wrongly at a machine, so many times.
func fails(t *testing.T, b *user.Book, name string, m api.Mac, now int64, times int) {
	t.Helper()
	for range times {
		begins(t, b, name, m, 5, now, api.OK)
		finishes(t, b, name, m, 11, 5, right(name, m, 11, 5)+1, now, api.ErrAuth)
	}
}

// comesIn is somebody who answers rightly.
func comesIn(t *testing.T, b *user.Book, name string, m api.Mac, now int64) {
	t.Helper()
	begins(t, b, name, m, 5, now, api.OK)
	finishes(t, b, name, m, 11, 5, right(name, m, 11, 5), now, api.OK)
}

// two is a book of ann and bob, with a machine h1.
func two(t *testing.T, lock int64) *user.Book {
	t.Helper()
	b := user.New(lock)
	users(t, b, "ann", key("ann"), api.OK)
	users(t, b, "bob", key("bob"), api.OK)
	hosts(t, b, "h1", 7, api.OK)
	return b
}

// P24.2.

func TestComeIn(t *testing.T) {
	b := two(t, 10)
	for _, m := range addresses() { // nobody asks whether it is a machine's
		for _, nonce := range []uint64{0, 1, 1 << 32, math.MaxUint64} {
			for _, now := range []int64{0, 1, api.MaxTime} {
				for _, ip := range []api.Ip{0, 11, 1<<32 - 1} {
					begins(t, b, "ann", m, nonce, now, api.OK)
					finishes(t, b, "ann", m, ip, nonce, right("ann", m, ip, nonce), now, api.OK)
					finishes(t, b, "ann", m, ip, nonce, right("ann", m, ip, nonce), now, api.ErrAuth) // P24.5
				}
			}
		}
	}
	locked(t, b, "ann", 0, false)
}

func TestBeginAsNobody(t *testing.T) {
	b := two(t, 10)
	begins(t, b, "ann", 7, 5, 100, api.OK)
	for _, name := range append(noNames(), "h1", "eve", "an", "anna", "a", "ANN") {
		begins(t, b, name, 7, 6, 100, api.ErrAuth)
		begins(t, b, name, 8, 6, 100, api.ErrAuth)
		finishes(t, b, name, 8, 11, 6, talk.Proof(talk.Key{}, talk.Response, name, 6, 8, 11), 100, api.ErrAuth)
	}
	finishes(t, b, "ann", 7, 11, 5, right("ann", 7, 11, 5), 100, api.OK) // she is about to still
}

// Nobody comes in at a machine where nobody is about to.
func TestFinishWhatNobodyBegan(t *testing.T) {
	b := two(t, 10)
	zero := talk.Proof(talk.Key{}, talk.Response, "", 0, 7, 11)
	for range 4 {
		finishes(t, b, "", 7, 11, 0, zero, 100, api.ErrAuth)
		finishes(t, b, "ann", 7, 11, 5, right("ann", 7, 11, 5), 100, api.ErrAuth)
		finishes(t, b, "ann", 7, 11, 0, right("ann", 7, 11, 0), 100, api.ErrAuth)
		finishes(t, b, "ann", 7, 11, 5, 1, 100, api.ErrAuth)
	}
	has(t, b, []string{"ann", "bob"}, map[string]api.Mac{"h1": 7})
	locked(t, b, "ann", 100, false) // nor did she fail by that
	begins(t, b, "ann", 7, 5, 100, api.OK)
	finishes(t, b, "ann", 8, 11, 5, right("ann", 8, 11, 5), 100, api.ErrAuth) // another machine
	finishes(t, b, "ann", 7+1<<48, 11, 5, right("ann", 7, 11, 5), 100, api.ErrAuth)
	finishes(t, b, "ann", 7, 11, 5, right("ann", 7, 11, 5), 100, api.OK) // nothing befell her by that
}

// P24.4: another tag, of whatever else it is the right one.
func TestWrongTags(t *testing.T) {
	good := right("ann", 7, 11, 5)
	wrong := []uint64{
		0, good ^ 1, good ^ 1<<63, good ^ 1<<32, ^good,
		right("ann", 8, 11, 5), right("ann", 7, 12, 5), right("ann", 7, 11, 6), right("bob", 7, 11, 5),
		talk.Proof(key("ann"), talk.Response, "bob", 5, 7, 11), talk.Proof(key("bob"), talk.Response, "ann", 5, 7, 11),
		talk.Proof(key("ann"), talk.Logout, "ann", 5, 7, 11), talk.Proof(key("ann"), talk.Challenge, "ann", 5, 7, 11),
		talk.Proof(talk.Key{}, talk.Response, "ann", 5, 7, 11),
	}
	for _, tag := range wrong {
		b := two(t, 10)
		for i := range 3 {
			locked(t, b, "ann", 100, false)
			begins(t, b, "ann", 7, 5, 100, api.OK)
			finishes(t, b, "ann", 7, 11, 5, tag, 100, api.ErrAuth)
			if i < 2 { // she is not about to any more
				finishes(t, b, "ann", 7, 11, 5, good, 100, api.ErrAuth)
			}
		}
		locked(t, b, "ann", 100, true)
		locked(t, b, "bob", 100, false)
	}
}

// Another name, or another number, is no answer at all: nobody failed, but nobody is about to log in there any more.
func TestOtherNamesAndNumbers(t *testing.T) {
	b := two(t, 10)
	for range 5 {
		for _, name := range []string{"bob", "h1", "eve", "", "an", "anna"} {
			begins(t, b, "ann", 7, 5, 100, api.OK)
			tag := talk.Proof(talk.Key{A: 3, B: 'b'}, talk.Response, name, 5, 7, 11) // bob's secret
			finishes(t, b, name, 7, 11, 5, tag, 100, api.ErrAuth)
			finishes(t, b, name, 7, 11, 5, tag, 100, api.ErrAuth)
			finishes(t, b, "ann", 7, 11, 5, right("ann", 7, 11, 5), 100, api.ErrAuth)
		}
		for _, nonce := range []uint64{0, 4, 6, 1<<32 + 5, 1<<63 + 5} {
			begins(t, b, "ann", 7, 5, 100, api.OK)
			finishes(t, b, "ann", 7, 11, nonce, right("ann", 7, 11, nonce), 100, api.ErrAuth)
			finishes(t, b, "ann", 7, 11, 5, right("ann", 7, 11, 5), 100, api.ErrAuth)
		}
	}
	locked(t, b, "ann", 100, false)
	locked(t, b, "bob", 100, false)
	fails(t, b, "ann", 7, 100, 2)
	begins(t, b, "ann", 7, 5, 100, api.OK)
	finishes(t, b, "ann", 7, 11, 6, 1, 100, api.ErrAuth)
	locked(t, b, "ann", 100, false)
	fails(t, b, "ann", 7, 100, 1)
	locked(t, b, "ann", 100, true)
}

// Who begins at a machine does so in place of whoever was about to there; at all others they are still.
func TestInPlaceOf(t *testing.T) {
	b := two(t, 10)
	begins(t, b, "ann", 7, 5, 100, api.OK)
	begins(t, b, "ann", 8, 6, 100, api.OK)
	begins(t, b, "bob", 9, 5, 100, api.OK)
	begins(t, b, "bob", 7, 6, 100, api.OK) // another user
	begins(t, b, "ann", 8, 7, 100, api.OK) // another number
	finishes(t, b, "bob", 7, 11, 6, right("bob", 7, 11, 6), 100, api.OK)
	finishes(t, b, "ann", 7, 11, 5, right("ann", 7, 11, 5), 100, api.ErrAuth)
	finishes(t, b, "ann", 8, 11, 7, right("ann", 8, 11, 7), 100, api.OK)
	finishes(t, b, "bob", 9, 11, 5, right("bob", 9, 11, 5), 100, api.OK)
	begins(t, b, "ann", 8, 6, 100, api.OK)
	begins(t, b, "ann", 8, 7, 100, api.OK)
	finishes(t, b, "ann", 8, 11, 6, right("ann", 8, 11, 6), 100, api.ErrAuth) // the elder number is good for nothing
	finishes(t, b, "ann", 8, 11, 7, right("ann", 8, 11, 7), 100, api.ErrAuth)
}

func TestMostMachines(t *testing.T) {
	b := two(t, 10)
	for m := range api.Mac(64) {
		begins(t, b, "ann", m, uint64(m), 100, api.OK)
	}
	begins(t, b, "ann", 64, 5, 100, api.ErrFull)
	begins(t, b, "bob", 1<<48, 5, 100, api.ErrFull)
	begins(t, b, "eve", 64, 5, 100, api.ErrAuth)
	for m := range api.Mac(64) { // those who are may begin anew
		begins(t, b, "bob", m, uint64(m)+1, 100, api.OK)
	}
	fails(t, b, "ann", 63, 100, 1)
	begins(t, b, "ann", 64, 5, 100, api.OK) // 63 is not about to any more
	begins(t, b, "ann", 63, 5, 100, api.ErrFull)
	finishes(t, b, "bob", 0, 11, 0, 0, 100, api.ErrAuth)
	fails(t, b, "ann", 63, 100, 1)
	fails(t, b, "ann", 63, 100, 1)
	locked(t, b, "ann", 100, true)
	begins(t, b, "bob", 0, 1, 100, api.OK)
	begins(t, b, "ann", 65, 5, 100, api.ErrLocked) // ahead of ErrFull
	begins(t, b, "bob", 65, 5, 100, api.ErrFull)
	for m := range api.Mac(63) {
		finishes(t, b, "bob", m, 11, uint64(m)+1, right("bob", m, 11, uint64(m)+1), 100, api.OK)
	}
	finishes(t, b, "ann", 64, 11, 5, right("ann", 64, 11, 5), 100, api.ErrLocked)
}

func TestLock(t *testing.T) {
	for _, lock := range []int64{math.MinInt64, -1 << 32, -10, -1, 0, 1, 2, 10, 1<<20 - 1, 1 << 20, 1<<20 + 1, 1 << 32, 1<<32 + 1, api.MaxTime, math.MaxInt64} {
		ticks := min(max(lock, 1), lastLock)
		for _, now := range []int64{0, 1, 100, 1 << 32, api.MaxTime - 2*lastLock} {
			b := two(t, lock)
			locked(t, b, "ann", now, false)
			fails(t, b, "ann", 7, now, 2)
			locked(t, b, "ann", now, false)
			fails(t, b, "ann", 7, now, 1)
			for _, at := range []int64{0, now, now + ticks/2, now + ticks - 1} {
				locked(t, b, "ann", at, true)
				begins(t, b, "ann", 7, 5, at, api.ErrLocked)
				locked(t, b, "bob", at, false)
				locked(t, b, "h1", at, false)
				locked(t, b, "", at, false)
				comesIn(t, b, "bob", 7, at)
			}
			locked(t, b, "ann", now+ticks, false)
			locked(t, b, "ann", api.MaxTime, false)
			comesIn(t, b, "ann", 7, now+ticks)
		}
	}
}

// Her count is 0 when she is locked: she may fail as often again.
func TestLockedAgain(t *testing.T) {
	b := two(t, 10)
	fails(t, b, "ann", 7, 100, 3)
	locked(t, b, "ann", 109, true)
	for _, now := range []int64{110, 125, 1000} {
		fails(t, b, "ann", 8, now, 2)
		locked(t, b, "ann", now, false)
		fails(t, b, "ann", 9, now, 1)
		locked(t, b, "ann", now+9, true)
		locked(t, b, "ann", now+10, false)
	}
}

// Fails in a row count, at whatever machines, whenever; who comes in has none.
func TestFails(t *testing.T) {
	b := two(t, 10)
	for n := range 3 {
		fails(t, b, "ann", 7, 100, n)
		comesIn(t, b, "ann", 8, 100)
	}
	locked(t, b, "ann", 100, false)
	fails(t, b, "ann", 7, 100, 1)
	fails(t, b, "bob", 7, 100, 2) // another one's fails are his
	comesIn(t, b, "bob", 7, 100)
	fails(t, b, "ann", 8, 5000, 1)
	locked(t, b, "ann", 5000, false)
	b.Forget()
	begins(t, b, "ann", 9, 5, 5001, api.OK)
	begins(t, b, "ann", 9, 5, 5001, api.OK)
	fails(t, b, "ann", 9, 6000, 1)
	locked(t, b, "ann", 6009, true)
	locked(t, b, "bob", 6009, false)
	fails(t, b, "bob", 9, 6000, 2)
	locked(t, b, "bob", 6000, false)
}

// She is locked from the third fail on, whenever the first two were.
func TestLockedFromTheLast(t *testing.T) {
	b := two(t, 10)
	fails(t, b, "ann", 7, 100, 1)
	fails(t, b, "ann", 7, 105, 1)
	fails(t, b, "ann", 7, 120, 1)
	locked(t, b, "ann", 129, true)
	locked(t, b, "ann", 130, false)
}

// Who is locked while she is about to log in: no answer counts, but she is not about to any more.
func TestFinishLocked(t *testing.T) {
	b := two(t, 10)
	for m := range api.Mac(10) {
		begins(t, b, "ann", m, 5, 100, api.OK)
	}
	fails(t, b, "ann", 20, 100, 3)
	finishes(t, b, "ann", 0, 11, 5, right("ann", 0, 11, 5), 109, api.ErrLocked)
	finishes(t, b, "ann", 0, 11, 5, right("ann", 0, 11, 5), 110, api.ErrAuth) // nobody is there
	for m := api.Mac(1); m < 5; m++ {
		finishes(t, b, "ann", m, 11, 5, 1, 109, api.ErrLocked) // no fail counts
	}
	finishes(t, b, "ann", 5, 11, 6, right("ann", 5, 11, 6), 109, api.ErrAuth) // ahead of ErrLocked
	finishes(t, b, "bob", 6, 11, 5, right("bob", 6, 11, 5), 109, api.ErrAuth)
	locked(t, b, "ann", 109, true)
	locked(t, b, "ann", 110, false)
	finishes(t, b, "ann", 7, 11, 5, right("ann", 7, 11, 5), 110, api.OK) // it was begun ahead of it
	finishes(t, b, "ann", 8, 11, 5, 1, 110, api.ErrAuth)
	finishes(t, b, "ann", 9, 11, 5, 1, 110, api.ErrAuth)
	locked(t, b, "ann", 110, false)
	fails(t, b, "ann", 9, 110, 1)
	locked(t, b, "ann", 110, true)
}

// A Begin that is refused changes nothing.
func TestBeginLocked(t *testing.T) {
	b := two(t, 10)
	fails(t, b, "ann", 7, 100, 3)
	begins(t, b, "bob", 7, 5, 105, api.OK)
	begins(t, b, "ann", 7, 6, 105, api.ErrLocked)
	begins(t, b, "ann", 8, 6, 105, api.ErrLocked)
	finishes(t, b, "ann", 8, 11, 6, right("ann", 8, 11, 6), 105, api.ErrAuth)
	finishes(t, b, "bob", 7, 11, 5, right("bob", 7, 11, 5), 105, api.OK)
	locked(t, b, "ann", 110, false)
}

// P24.3.

func TestProves(t *testing.T) {
	b := two(t, 10)
	for _, kind := range []int{math.MinInt, -1, 0, 1, talk.Challenge, talk.Response, talk.Logout, 255, 256, math.MaxInt} {
		for _, m := range []api.Mac{0, 7, api.Anybody, 1<<48 + 7, math.MaxUint64} {
			tag := talk.Proof(key("ann"), kind, "ann", 5, m, 11)
			proves(t, b, "ann", kind, m, 11, 5, tag, true)
			proves(t, b, "ann", kind, m, 11, 5, tag+1, false)
			proves(t, b, "ann", kind, m, 11, 5, tag^1<<63, false)
			proves(t, b, "ann", kind, m, 11, 6, tag, false)
			proves(t, b, "ann", kind, m, 12, 5, tag, false)
			proves(t, b, "ann", kind, m^1, 11, 5, tag, false)
			proves(t, b, "ann", kind^1, m, 11, 5, tag, false)
			proves(t, b, "bob", kind, m, 11, 5, tag, false)
			proves(t, b, "bob", kind, m, 11, 5, talk.Proof(key("bob"), kind, "bob", 5, m, 11), true)
		}
	}
	for _, name := range append(noNames(), "h1", "eve") {
		for _, k := range []talk.Key{{}, key("ann"), key("bob")} {
			proves(t, b, name, talk.Logout, 7, 11, 5, talk.Proof(k, talk.Logout, name, 5, 7, 11), false)
		}
	}
}

// Proves asks, and no more: nobody fails by it, it does not ask who is locked, and who is about to log in is.
func TestProvesChangesNothing(t *testing.T) {
	b := two(t, 10)
	begins(t, b, "ann", 7, 5, 100, api.OK)
	for range 5 {
		proves(t, b, "ann", talk.Response, 7, 11, 5, right("ann", 7, 11, 5), true)
		proves(t, b, "ann", talk.Response, 7, 11, 5, 1, false)
	}
	locked(t, b, "ann", 100, false)
	finishes(t, b, "ann", 7, 11, 5, right("ann", 7, 11, 5), 100, api.OK)
	fails(t, b, "ann", 7, 100, 2)
	proves(t, b, "ann", talk.Response, 7, 11, 5, right("ann", 7, 11, 5), true)
	fails(t, b, "ann", 7, 100, 1)
	locked(t, b, "ann", 100, true)
	proves(t, b, "ann", talk.Logout, 7, 11, 5, talk.Proof(key("ann"), talk.Logout, "ann", 5, 7, 11), true)
	locked(t, b, "ann", 109, true)
}

// Forget is of those who are about to log in alone.
func TestForget(t *testing.T) {
	b := two(t, 10)
	fails(t, b, "bob", 7, 100, 3)
	fails(t, b, "ann", 7, 100, 2)
	for m := range api.Mac(64) {
		begins(t, b, "ann", m, 5, 100, api.OK)
	}
	b.Forget()
	b.Forget()
	for m := range api.Mac(64) {
		finishes(t, b, "ann", m, 11, 5, right("ann", m, 11, 5), 100, api.ErrAuth)
	}
	has(t, b, []string{"ann", "bob"}, map[string]api.Mac{"h1": 7})
	locked(t, b, "bob", 109, true)
	locked(t, b, "ann", 100, false)
	for m := range api.Mac(64) {
		begins(t, b, "ann", m+100, 5, 100, api.OK)
	}
	begins(t, b, "ann", 1, 5, 100, api.ErrFull)
	finishes(t, b, "ann", 100, 11, 5, 1, 100, api.ErrAuth)
	locked(t, b, "ann", 100, true) // the third fail
}

// Of who is revoked nothing is left.
func TestLockedAndRevoked(t *testing.T) {
	b := two(t, 10)
	fails(t, b, "ann", 7, 100, 3)
	locked(t, b, "ann", 105, true)
	revokes(t, b, "ann", true)
	locked(t, b, "ann", 105, false)
	begins(t, b, "ann", 7, 5, 105, api.ErrAuth)
	comesIn(t, b, "bob", 7, 105)
}

func TestMostFails(t *testing.T) {
	if user.MostFails != 3 {
		t.Error(user.MostFails)
	}
}
