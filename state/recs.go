package state

import (
	"slices"

	"ostiary/api"
	"ostiary/audit"
	"ostiary/lex"
	"ostiary/pool"
	"ostiary/talk"
)

// Apply: a record more.
func (s *State) Apply(r audit.Rec) api.Errno {
	if s == nil {
		return api.ErrNil
	}
	if !audit.May(r) {
		return api.ErrArg
	}
	switch r.Kind {
	case audit.Epoch:
		return s.begin(r.Epoch)
	case audit.Policy:
		s.policy = r.Text
	case audit.User:
		return s.addUser(r.Name, talk.Key{A: r.A, B: r.B})
	case audit.Host:
		return s.addHost(r.Name, r.Mac)
	case audit.Revoke:
		return s.revoke(r.Name)
	case audit.Lease:
		return s.let(pool.Lease{Mac: r.Mac, Ip: r.Ip, Until: r.Until})
	case audit.Unlet:
		return s.unlet(r.Mac, r.Ip)
	}
	return api.OK
}

// Recs: records that lead to it. Revoked names come first, each as a user who goes at once: so there is room for him, and nobody has his name.
func (s *State) Recs(now int64) []audit.Rec {
	if s == nil {
		return nil
	}
	var l []audit.Rec
	add := func(r audit.Rec) {
		r.Time = now
		l = append(l, r)
	}
	if s.epoch != 0 {
		add(audit.Rec{Kind: audit.Epoch, Epoch: s.epoch})
	}
	if s.policy != "" {
		add(audit.Rec{Kind: audit.Policy, Text: s.policy})
	}
	for _, name := range s.Revoked() {
		add(audit.Rec{Kind: audit.User, Name: name})
		add(audit.Rec{Kind: audit.Revoke, Name: name})
	}
	for _, name := range s.Users() {
		u, _ := s.users.Get(name)
		add(audit.Rec{Kind: audit.User, Name: name, A: u.A, B: u.B})
	}
	for _, name := range s.Hosts() {
		m, _ := s.Mac(name)
		add(audit.Rec{Kind: audit.Host, Name: name, Mac: m})
	}
	for _, x := range s.Leases() {
		add(audit.Rec{Kind: audit.Lease, Mac: x.Mac, Ip: x.Ip, Until: x.Until})
	}
	return l
}

func (s *State) begin(epoch uint32) api.Errno {
	if epoch <= s.epoch {
		return api.ErrStale
	}
	s.epoch = epoch
	return api.OK
}

func (s *State) addUser(name string, k talk.Key) api.Errno {
	if e := s.mayHave(name); e != api.OK {
		return e
	}
	return s.users.Set(name, user{k})
}

func (s *State) addHost(name string, m api.Mac) api.Errno {
	if m == api.Anybody {
		return api.ErrArg
	}
	if e := s.mayHave(name); e != api.OK {
		return e
	}
	if slices.Contains(s.hosts.Vals(), m) {
		return api.ErrThere
	}
	return s.hosts.Set(name, m)
}

func (s *State) revoke(name string) api.Errno {
	if !s.has(name) {
		return api.ErrNone
	}
	if e := s.revoked.Set(name, struct{}{}); e != api.OK {
		return e
	}
	s.users.Del(name)
	s.hosts.Del(name)
	return api.OK
}

// let: if nothing goes and there is no room, nothing is done; if something goes, there is.
func (s *State) let(x pool.Lease) api.Errno {
	s.leases.Drop(func(_ api.Ip, o pool.Lease) bool { return o.Mac == x.Mac || o.Ip == x.Ip })
	return s.leases.Set(x.Ip, x)
}

func (s *State) unlet(m api.Mac, ip api.Ip) api.Errno {
	if x, ok := s.leases.Get(ip); !ok || x.Mac != m {
		return api.ErrNone
	}
	s.leases.Del(ip)
	return api.OK
}

// mayHave: may somebody have that name from now on? A record's name is one of layer 7 already.
func (s *State) mayHave(name string) api.Errno {
	_, gone := s.revoked.Get(name)
	switch {
	case lex.Reserved(name):
		return api.ErrArg
	case gone:
		return api.ErrState
	case s.has(name):
		return api.ErrThere
	}
	return api.OK
}

// has: has a user that name, or a machine?
func (s *State) has(name string) bool {
	_, is := s.users.Get(name)
	_, also := s.hosts.Get(name)
	return is || also
}
