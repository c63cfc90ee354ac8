package pol

import (
	"ostiary/api"
	"ostiary/lex"
)

// spot is where one reads, and the first error that was met: behind it nothing is taken any more, so that the spot is the error's, too.
type spot struct {
	at  int // a token's number
	err api.Errno
}

// need: what has to be so at the spot; of several the first one that is not so counts.
func (s *spot) need(so bool, e api.Errno) {
	if !so && s.err == api.OK {
		s.err = e
	}
}

func (s *spot) fine() bool { return s.err == api.OK }

func (s *spot) step() {
	if s.fine() {
		s.at++
	}
}

// reader reads a policy out of tokens.
type reader struct {
	spot
	tokens []lex.Token // the last one is of no kind and stands where the text ends, so that there always is one
	policy Policy
}

func (r *reader) token() lex.Token { return r.tokens[r.at] }

func (r *reader) more() bool { return r.fine() && r.at < len(r.tokens)-1 }

func (r *reader) sees(text string) bool { return r.token().Text == text }

func (r *reader) atName() bool { return good(r.token().Text) }

func (r *reader) atNumber() bool { return r.token().Kind == lex.Number }

func (r *reader) atLit() bool { return r.sees("!") || r.atName() }

// take goes on, if this word or sign stands here.
func (r *reader) take(text string) bool {
	if !r.fine() || !r.sees(text) {
		return false
	}
	r.step()
	return true
}

func (r *reader) must(text string) { r.need(r.take(text), api.ErrSyntax) }

// maybe reads what belongs to a word or sign, if it stands here.
func (r *reader) maybe(text string, read func()) {
	if r.take(text) {
		read()
	}
}

// room: may one more thing be read? One that does not even begin here is no thing that is too many.
func (r *reader) room(begins bool, have, most int) bool {
	r.need(begins, api.ErrSyntax)
	r.need(have < most, api.ErrFull)
	return r.fine()
}

// list reads things with a sign between, one at least.
func list[T any](r *reader, sign string, most int, begins func(*reader) bool, read func(*reader) T) []T {
	var l []T
	for r.room(begins(r), len(l), most) {
		l = append(l, read(r))
		if !r.take(sign) {
			break
		}
	}
	return l
}

func (r *reader) name() string {
	s := r.token().Text
	r.need(r.atName(), api.ErrSyntax)
	r.step()
	return s
}

func (r *reader) number(lo, hi int) int {
	n := r.token().Num
	r.need(r.atNumber(), api.ErrSyntax)
	r.need(within(n, lo, hi), api.ErrRange)
	r.step()
	return n
}

func (r *reader) line() {
	if r.sees("group") {
		r.group()
	} else {
		r.rule()
	}
}

func (r *reader) group() {
	var g Group
	r.need(len(r.policy.Groups) < api.MaxGroups, api.ErrFull)
	r.must("group")
	r.need(!named(r.policy.Groups, r.token().Text), api.ErrThere)
	g.Name = r.name()
	r.must("=")
	g.Members = list(r, ",", mostMembers, (*reader).atName, (*reader).name)
	r.must(";")
	r.policy.Groups = append(r.policy.Groups, g)
}

func (r *reader) rule() {
	act := actOf(r.token().Text)
	if !r.room(act != 0, len(r.policy.Rules), api.MaxRules) {
		return
	}
	r.step()
	u := Rule{Act: act, Proto: AnyProto}
	if act == Via {
		u.Via = list(r, ",", api.MaxVia, (*reader).atNumber, (*reader).sw)
	}
	r.must(":")
	u.From = r.who()
	r.must("->")
	u.To = r.who()
	r.proto(&u)
	r.must(";")
	r.policy.Rules = append(r.policy.Rules, u)
}

func (r *reader) sw() int { return r.number(1, api.MaxSwitch) }

func (r *reader) who() []Lit {
	if r.take("any") {
		return nil
	}
	return list(r, "&", mostLits, (*reader).atLit, (*reader).lit)
}

func (r *reader) lit() Lit {
	not := r.take("!")
	return Lit{not, r.name()}
}

// proto reads a protocol and its ports, each of which may be missing.
func (r *reader) proto(u *Rule) {
	switch {
	case r.take("tcp"):
		u.Proto = api.Tcp
	case r.take("udp"):
		u.Proto = api.Udp
	case r.take("ip"):
		u.Proto = r.number(0, mostProto)
		return // no ports stand behind a number, even if it is Tcp's or Udp's
	default:
		return
	}
	r.maybe("port", func() {
		u.Ports = true
		u.Lo = r.number(0, mostPort)
		u.Hi = u.Lo
		r.maybe("-", func() { u.Hi = r.number(u.Lo, mostPort) })
	})
}
