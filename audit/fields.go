package audit

import (
	"math"

	"ostiary/api"
	"ostiary/flow"
	"ostiary/talk"
)

// How many bytes a text and how many hops a path has at most.
const (
	mostText = 800
	mostHops = 60
)

// fields is a set of them. Two that each kind has both or neither of are one.
type fields int

const (
	always fields = 1 << iota // Time: each kind has it
	epoch
	number // Flow
	why
	rule
	name
	text
	secret // A, B
	mac
	ip
	until
	from
	to
	ends // Src, Dst
	key
	path
)

// fieldsOf: a kind that there isn't has none.
func fieldsOf(kind int) fields {
	switch kind {
	case Epoch:
		return always | epoch
	case Policy:
		return always | text
	case User:
		return always | name | secret
	case Host:
		return always | name | mac
	case Revoke:
		return always | name
	case Lease:
		return always | mac | ip | until
	case Unlet:
		return always | mac | ip
	case Login:
		return always | name | mac | ip | from
	case Logoff:
		return always | name | why
	case Admit:
		return always | epoch | number | rule | from | to | ends | key | path
	case Deny:
		return always | why | from | key
	}
	return 0
}

func (f fields) has(one fields) bool { return f&one != 0 }

// num is a number of a record: its field, the least and the most that it may be where a kind has it, and what it is. One below 0 is far above all that may be.
type num struct {
	of             fields
	least, most, v uint64
}

func numsOf(r Rec) []num {
	return []num{
		{always, 0, api.MaxTime - 1, uint64(r.Time)},
		{epoch, 0, math.MaxUint32, uint64(r.Epoch)},
		{number, 0, math.MaxUint32, uint64(r.Flow)},
		{why, 0, 255, uint64(r.Why)},
		{rule, 0, 255, uint64(r.Rule)},
		{secret, 0, math.MaxUint64, r.A},
		{secret, 0, math.MaxUint64, r.B},
		{mac, 0, uint64(api.Anybody), uint64(r.Mac)},
		{ip, 0, math.MaxUint32, uint64(r.Ip)},
		{until, 0, api.MaxTime - 1, uint64(r.Until)},
		{from, 1, api.MaxSwitch, uint64(r.From.Sw)},
		{from, 1, api.MaxPort, uint64(r.From.Port)},
		{to, 1, api.MaxSwitch, uint64(r.To.Sw)},
		{to, 1, api.MaxPort, uint64(r.To.Port)},
	}
}

// What a kind does not have is its zero value: that goes for all that follow.

func (f fields) fitNumbers(r Rec) bool {
	for _, n := range numsOf(r) {
		if !f.has(n.of) && n.v != 0 || f.has(n.of) && (n.v < n.least || n.v > n.most) {
			return false
		}
	}
	return true
}

func (f fields) fitNames(r Rec) bool {
	return f.fitName(name, r.Name) &&
		f.fitName(ends, r.Src.User) && f.fitName(ends, r.Src.Host) &&
		f.fitName(ends, r.Dst.User) && f.fitName(ends, r.Dst.Host)
}

func (f fields) fitName(of fields, s string) bool {
	if f.has(of) {
		return talk.Name(s)
	}
	return s == ""
}

func (f fields) fitText(s string) bool {
	if f.has(text) {
		return len(s) <= mostText
	}
	return s == ""
}

func (f fields) fitKey(k api.Key) bool {
	if f.has(key) {
		return flow.Good(k)
	}
	return k == api.Key{}
}

func (f fields) fitPath(l []api.Hop) bool {
	if !f.has(path) {
		return len(l) == 0
	}
	if len(l) < 1 || len(l) > mostHops {
		return false
	}
	for _, h := range l {
		if min(h.Sw, h.In, h.Out) < 1 || h.Sw > api.MaxSwitch || max(h.In, h.Out) > api.MaxPort {
			return false
		}
	}
	return true
}
