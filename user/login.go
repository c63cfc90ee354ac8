package user

import (
	"ostiary/api"
	"ostiary/talk"
)

// Begin: somebody wants to log in.
func (b *Book) Begin(name string, m api.Mac, nonce uint64, now int64) api.Errno {
	switch {
	case b == nil:
		return api.ErrNil
	case !b.Is(name):
		return api.ErrAuth
	case b.Locked(name, now):
		return api.ErrLocked
	}
	return b.logins.Set(m, login{name, nonce})
}

// Finish: he answers. Whatever he answers, and whoever it is, the number is good for nothing any more.
func (b *Book) Finish(name string, m api.Mac, ip api.Ip, nonce, tag uint64, now int64) api.Errno {
	if b == nil {
		return api.ErrNil
	}
	told, ok := b.logins.Get(m)
	b.logins.Del(m)
	a, _ := b.account(name)
	switch {
	case !ok || told != login{name, nonce}:
		return api.ErrAuth
	case b.Locked(name, now):
		return api.ErrLocked
	case !a.proves(tag, talk.Response, name, nonce, m, ip):
		b.users.Set(name, a.failed(now+b.lock))
		return api.ErrAuth
	}
	a.fails = 0
	return b.users.Set(name, a)
}

// Proves: does he know the secret?
func (b *Book) Proves(name string, kind int, m api.Mac, ip api.Ip, nonce, tag uint64) bool {
	a, ok := b.account(name)
	return ok && a.proves(tag, kind, name, nonce, m, ip)
}

// Forget: nobody is about to log in.
func (b *Book) Forget() {
	if b != nil {
		b.logins.Drop(func(api.Mac, login) bool { return true })
	}
}

// Locked: may he not try?
func (b *Book) Locked(name string, now int64) bool {
	a, ok := b.account(name)
	return ok && now < a.until
}

func (s secret) proves(tag uint64, kind int, name string, nonce uint64, m api.Mac, ip api.Ip) bool {
	return tag == talk.Proof(talk.Key(s), kind, name, nonce, m, ip)
}

// failed is what he has when he failed once more, and is locked until then if that was too often.
func (a account) failed(until int64) account {
	a.fails++
	if a.fails == MostFails {
		a.fails, a.until = 0, until
	}
	return a
}
