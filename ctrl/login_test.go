package ctrl_test

import (
	"testing"

	"ostiary/api"
	"ostiary/ctl"
	"ostiary/talk"
)

// P29.7.

func hello(user string) talk.Msg { return talk.Msg{Kind: talk.Hello, User: user} }

func (r *rig) challenges(h host, user string, nonce uint64) ctl.Msg {
	return r.answers(h, api.AuthPort, talk.Msg{Kind: talk.Challenge, User: user, Nonce: nonce})
}

func (r *rig) rejects(h host, user string, why api.Errno) ctl.Msg {
	return r.answers(h, api.AuthPort, talk.Msg{Kind: talk.Reject, User: user, Why: int(why)})
}

// rejected fails unless somebody is told so, and nothing befalls.
func (r *rig) rejected(h host, m talk.Msg, why api.Errno) {
	r.Helper()
	r.passes()
	was := r.standing()
	r.says(r.auth(h, m), r.rejects(h, m.User, why), r.free(h.at))
	r.wrote()
	if is := r.standing(); is != was {
		r.Errorf("changed: %s\n%s", was, is)
	}
}

// No number comes twice: the epoch, and the count of challenges, those that were refused, too.
func TestHello(t *testing.T) {
	r := net(t, 300)
	r.leases(ha, hb)
	r.passes()
	was := r.standing()
	r.says(r.auth(ha, hello("ann")), r.challenges(ha, "ann", 1<<32+1), r.free(ha.at))
	r.says(r.auth(hb, hello("ann")), r.challenges(hb, "ann", 1<<32+2), r.free(hb.at))
	r.says(r.auth(ha, hello("zoe")), r.rejects(ha, "zoe", api.ErrAuth), r.free(ha.at))
	r.says(r.auth(ha, hello("ha")), r.rejects(ha, "ha", api.ErrAuth), r.free(ha.at))
	r.says(r.auth(ha, hello("bob")), r.challenges(ha, "bob", 1<<32+5), r.free(ha.at))
	r.wrote()
	if is := r.standing(); is != was {
		t.Error(was, is)
	}
	r.rules("")
	r.says(r.auth(ha, hello("ann")), r.challenges(ha, "ann", 2<<32+6), r.free(ha.at))
	r.again() // the count begins anew, in a greater epoch
	r.wires()
	r.leases(ha)
	r.says(r.auth(ha, hello("ann")), r.challenges(ha, "ann", 3<<32+1), r.free(ha.at))
}

func TestLogin(t *testing.T) {
	r := net(t, 300)
	r.leases(ha)
	r.now = 150
	nonce := r.challenged(ha, "ann")
	r.now = 160
	r.passes()
	r.says(r.auth(ha, proof(ha, talk.Response, "ann", nonce)), r.accepts(ha, "ann", 940), r.free(ha.at))
	r.wrote(r.login(ha, "ann"))
	r.binds(bound(ha, "ann", 1100))
	r.rejected(ha, proof(ha, talk.Response, "ann", nonce), api.ErrAuth) // it is good once
}

// The same user once more: nothing that was let in is taken back.
func TestLoginAgain(t *testing.T) {
	r := home(t, "allow: any -> any;")
	r.lets(ha.at, tcp(t, ha, hb, 1, 2))
	r.logsIn(ha, "ann")
	if len(r.Flows()) != 1 || r.Epoch() != 2 {
		t.Error(r.Flows(), r.Epoch())
	}
	r.logsIn(hc, "ann") // and at another machine
	if len(r.Flows()) != 1 || r.Epoch() != 2 {
		t.Error(r.Flows(), r.Epoch())
	}
	r.binds(bound(ha, "ann", 1100), bound(hb, "bob", 1100), bound(hc, "ann", 1100))
}

// Another user in place of one: an epoch begins.
func TestLoginOfAnother(t *testing.T) {
	r := home(t, "allow: any -> any;")
	r.lets(ha.at, tcp(t, ha, hb, 1, 2))
	nonce := r.challenged(ha, "eve")
	r.passes()
	r.says(r.auth(ha, proof(ha, talk.Response, "eve", nonce)), append(r.flushes(), r.accepts(ha, "eve", 1000), r.free(ha.at))...)
	r.wrote(r.login(ha, "eve"), logoff("ann", api.ErrThere), r.epoch())
	r.binds(bound(ha, "eve", 1100), bound(hb, "bob", 1100), bound(hc, "", 1100))
	if len(r.Flows()) != 0 {
		t.Error(r.Flows())
	}
}

// A lease whose time is over, though no Tick has come: no ticks are left.
func TestLoginOfWhatIsOver(t *testing.T) {
	for _, now := range []int64{1099, 1100, 1101, 1500} {
		r := net(t, 300)
		r.leases(ha)
		r.now = now
		nonce := r.challenged(ha, "ann")
		r.passes()
		r.says(r.auth(ha, proof(ha, talk.Response, "ann", nonce)), r.accepts(ha, "ann", max(1100-now, 0)), r.free(ha.at))
		r.wrote(r.login(ha, "ann"))
	}
}

func TestResponseErrors(t *testing.T) {
	r := home(t, "allow: any -> any;")
	good := func() talk.Msg { return proof(hc, talk.Response, "ann", r.challenged(hc, "ann")) }
	r.rejected(hc, proof(hc, talk.Response, "ann", 5), api.ErrAuth) // nobody asked for a number
	m := good()
	m.Nonce++
	r.rejected(hc, m, api.ErrAuth)
	m.Nonce--
	r.rejected(hc, m, api.ErrAuth) // it is gone
	m = good()
	m.User = "bob"
	r.rejected(hc, m, api.ErrAuth)
	m = good()
	r.rejected(ha, proof(ha, talk.Response, "ann", m.Nonce), api.ErrAuth) // the number was hc's
	m.Tag++
	r.rejected(hc, m, api.ErrAuth) // the first fail
	r.rejected(hc, proof(hc, talk.Logout, "ann", 1), api.ErrAuth)
	x := good()
	x.Tag = proof(hc, talk.Logout, "ann", x.Nonce).Tag
	r.rejected(hc, x, api.ErrAuth) // the second one
	r.challenged(hb, "ann")
	x = good()
	x.Tag = proof(hb, talk.Response, "ann", x.Nonce).Tag
	r.rejected(hc, x, api.ErrAuth) // the third one
	r.rejected(hc, hello("ann"), api.ErrLocked)
	r.now += config.Lock - 1
	r.rejected(hc, hello("ann"), api.ErrLocked)
	r.rejected(hb, hello("ann"), api.ErrLocked)
	r.now++
	nonce := r.challenged(hc, "ann")
	r.passes()
	r.says(r.auth(hc, proof(hc, talk.Response, "ann", nonce)), r.accepts(hc, "ann", 950), r.free(hc.at))
	r.wrote(r.login(hc, "ann"))
}

// Who is locked may not answer what he was told ahead of that.
func TestResponseErrLocked(t *testing.T) {
	r := home(t, "")
	told := proof(hc, talk.Response, "eve", r.challenged(hc, "eve"))
	for range 3 {
		m := proof(hb, talk.Response, "eve", r.challenged(hb, "eve"))
		m.Tag++
		r.rejected(hb, m, api.ErrAuth)
	}
	r.rejected(hc, told, api.ErrLocked)
}

// As long as somebody is about to log in, another one may be logged in there.
func TestLoginWithoutRoom(t *testing.T) {
	r := home(t, "")
	nonce := r.challenged(hc, "eve")
	for r.Room() > 8 {
		r.fillOne()
	}
	r.rejected(hc, proof(hc, talk.Response, "eve", nonce), api.ErrFull)
	r.rejected(hc, proof(hc, talk.Response, "eve", nonce), api.ErrAuth) // its number is gone
	r.binds(bound(ha, "ann", 1100), bound(hb, "bob", 1100), bound(hc, "", 1100))
}

func TestReserveOfLogins(t *testing.T) {
	r := home(t, "")
	nonce := r.challenged(hc, "eve")
	for r.Room() > 9 {
		r.fillOne()
	}
	r.passes()
	r.says(r.auth(hc, proof(hc, talk.Response, "eve", nonce)), r.accepts(hc, "eve", 1000), r.free(hc.at))
	r.wrote(r.login(hc, "eve"))
	if r.Room() != 8 {
		t.Error(r.Room())
	}
}

func TestLogout(t *testing.T) {
	r := home(t, "allow: any -> any;")
	r.lets(ha.at, tcp(t, ha, hb, 1, 2))
	r.passes()
	r.says(r.auth(ha, proof(ha, talk.Logout, "ann", 12345)), append(r.flushes(), r.accepts(ha, "ann", 0), r.free(ha.at))...)
	r.wrote(logoff("ann", api.OK), r.epoch())
	r.binds(bound(ha, "", 1100), bound(hb, "bob", 1100), bound(hc, "", 1100))
	if len(r.Flows()) != 0 {
		t.Error(r.Flows())
	}
	r.rejected(ha, proof(ha, talk.Logout, "ann", 12345), api.ErrAuth) // she is there no more
	r.logsIn(ha, "ann")
}

func TestLogoutErrors(t *testing.T) {
	r := home(t, "allow: any -> any;")
	r.rejected(ha, proof(ha, talk.Logout, "bob", 1), api.ErrAuth)
	r.rejected(ha, proof(ha, talk.Logout, "zoe", 1), api.ErrAuth)
	r.rejected(hc, proof(hc, talk.Logout, "eve", 1), api.ErrAuth) // nobody is there
	good := proof(ha, talk.Logout, "ann", 1)
	m := good
	m.Tag++
	r.rejected(ha, m, api.ErrAuth)
	m = good
	m.Nonce++
	r.rejected(ha, m, api.ErrAuth)
	m = good
	m.Tag = proof(ha, talk.Response, "ann", 1).Tag
	r.rejected(ha, m, api.ErrAuth)
	m.Tag = proof(hb, talk.Logout, "ann", 1).Tag
	r.rejected(ha, m, api.ErrAuth)
	for range 5 { // these are no fails that count
		r.rejected(ha, m, api.ErrAuth)
	}
	r.logsIn(ha, "ann")
}

// Who is not bound is told nothing.
func TestLoginsOfNobody(t *testing.T) {
	r := home(t, "allow: any -> any;")
	for _, h := range []host{
		{at(1, 2), ha.mac, ha.ip, ""}, {ha.at, hb.mac, ha.ip, ""}, {ha.at, ha.mac, hb.ip, ""}, {ha.at, ha.mac, 0, ""}, {hb.at, ha.mac, ha.ip, ""}, {at(1, 2), 0xEE, service + 5, ""},
	} {
		for _, m := range []talk.Msg{hello("ann"), proof(ha, talk.Response, "ann", 5), proof(h, talk.Logout, "ann", 5), proof(ha, talk.Logout, "ann", 5)} {
			r.freed(h.at, r.asks(h, service, api.AuthPort, m))
		}
	}
	r.says(r.auth(ha, hello("ann")), r.challenges(ha, "ann", 2<<32+3), r.free(ha.at)) // none of these was counted
}

// What is no message, or one of the service's own, or about leases.
func TestLoginsOfNothing(t *testing.T) {
	r := home(t, "allow: any -> any;")
	for _, m := range []talk.Msg{
		{Kind: talk.Challenge, User: "ann"}, {Kind: talk.Accept, User: "ann"}, {Kind: talk.Reject, User: "ann"},
		discover(ha), offered(ha, ha.ip), request(ha), granted(ha), refused(ha, 1, 1), release(ha),
	} {
		r.freed(ha.at, r.asks(ha, service, api.AuthPort, m))
	}
	for _, b := range [][]byte{nil, {0}, []byte("OS"), make([]byte, 400)} {
		r.freed(ha.at, bytesOf(t, udp(ha.mac, serviceMac, ha.ip, service, 5000, api.AuthPort, b)))
	}
}

// Numbers that were told behind a bump, and the messages' epoch.
func TestAnswersHaveTheEpoch(t *testing.T) {
	r := home(t, "")
	r.rules("allow: any -> any;")
	l := r.auth(ha, hello("ann"))
	if l[0].Epoch != 3 || r.told(l).Nonce != 3<<32+3 {
		t.Error(l)
	}
}
