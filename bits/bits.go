// Package bits is layer 1: bits and bytes, written and read, the highest first. See shared/doc/01-bits.md.
package bits

import (
	"slices"

	"ostiary/api"
)

// Most is how many bytes there are at most.
const Most = 1 << 16

// Out is bits that grow.
type Out struct {
	b []byte // behind the last bit noughts, so that neither Fill nor Done has to write any
	n int    // in bits
}

// New: of bytes.
func New(parts ...[]byte) *Out {
	o := &Out{}
	for _, p := range parts {
		room := Most - len(o.b)
		o.b = append(o.b, p[:min(len(p), room)]...)
	}
	o.n = 8 * len(o.b)
	return o
}

func (o *Out) Bits(n int, l ...uint64) api.Errno {
	if o == nil {
		return api.ErrNil
	}
	if !width(n) {
		return api.ErrArg
	}
	if len(l) > o.room()/n {
		return api.ErrFull
	}
	for _, v := range l {
		o.add(n, v)
	}
	return api.OK
}

func (o *Out) Bytes(parts ...[]byte) api.Errno {
	if o == nil {
		return api.ErrNil
	}
	room := o.room() / 8
	for _, p := range parts { // all are asked ahead: a call that is refused writes none
		if len(p) > room {
			return api.ErrFull
		}
		room -= len(p)
	}
	for _, p := range parts {
		for _, c := range p {
			o.add(8, uint64(c))
		}
	}
	return api.OK
}

func (o *Out) Fill() int {
	if o == nil {
		return 0
	}
	n := 8*len(o.b) - o.n
	o.n += n
	return n
}

func (o *Out) Set(at, n int, v uint64) api.Errno {
	if o == nil {
		return api.ErrNil
	}
	if !width(n) {
		return api.ErrArg
	}
	if at < 0 || at > o.n-n { // at+n could go round
		return api.ErrRange
	}
	store(o.b, at, n, v)
	return api.OK
}

func (o *Out) Len() int {
	if o == nil {
		return 0
	}
	return o.n
}

func (o *Out) Done() []byte {
	if o == nil {
		return nil
	}
	return slices.Clone(o.b)
}

func (o *Out) room() int { return 8*Most - o.n }

// add asks for no room: a call that writes many things has asked for all of them.
func (o *Out) add(n int, v uint64) {
	at := o.n
	o.n += n
	for 8*len(o.b) < o.n {
		o.b = append(o.b, 0)
	}
	store(o.b, at, n, v)
}

// In reads bits.
type In struct {
	b   []byte
	at  int // in bits
	err api.Errno
}

// Of: of bytes. They are copied, as the caller may write into his own later.
func Of(b []byte) *In { return &In{b: slices.Clone(b)} }

func (i *In) Bits(n int) uint64 {
	if !i.may(n, 1, width(n)) {
		return 0
	}
	v := load(i.b, i.at, n)
	i.at += n
	return v
}

func (i *In) Bytes(n int) []byte {
	if !i.may(n, 8, n >= 0) {
		return nil
	}
	l := make([]byte, n)
	if i.at%8 == 0 {
		copy(l, i.b[i.at/8:])
	} else {
		for k := range l {
			l[k] = byte(load(i.b, i.at+8*k, 8))
		}
	}
	i.at += 8 * n
	return l
}

func (i *In) Skip(n int) {
	if i.may(n, 1, n >= 0) {
		i.at += n
	}
}

func (i *In) Rest() []byte { return i.Bytes(i.Left() / 8) }

func (i *In) Err() api.Errno {
	if i == nil {
		return api.ErrNil
	}
	return i.err
}

// At still tells where it stands when something was wrong: a caller can say where that was.
func (i *In) At() int {
	if i == nil {
		return 0
	}
	return i.at
}

func (i *In) Left() int {
	if i == nil || i.err != api.OK {
		return 0
	}
	return 8*len(i.b) - i.at
}

// may: can n things of so many bits each be read? If not, the first reason is kept, and nothing can any more.
func (i *In) may(n, size int, good bool) bool {
	if i == nil || i.err != api.OK {
		return false
	}
	if !good {
		i.err = api.ErrArg
	} else if n > i.Left()/size { // n*size could go round
		i.err = api.ErrRange
	}
	return i.err == api.OK
}

func width(n int) bool { return n >= 1 && n <= 64 }

// store writes v's n lowest bits over those of b from bit at on, as many at once as one byte has of them.
func store(b []byte, at, n int, v uint64) {
	for n > 0 {
		i, free := at/8, 8-at%8
		m := min(n, free)
		mask := byte(0xFF) >> (8 - m) << (free - m)
		part := byte(v>>(n-m)) << (free - m)
		b[i] = b[i]&^mask | part&mask
		at += m
		n -= m
	}
}

// load is the way back of store.
func load(b []byte, at, n int) uint64 {
	var v uint64
	for n > 0 {
		free := 8 - at%8
		m := min(n, free)
		part := b[at/8] >> (free - m) & (0xFF >> (8 - m))
		v = v<<m | uint64(part)
		at += m
		n -= m
	}
	return v
}
