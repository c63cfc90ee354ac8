package audit

import (
	"ostiary/api"
	"ostiary/bits"
	"ostiary/flow"
)

// writer writes those fields that a kind has.
type writer struct {
	*bits.Out
	fields
}

// write takes records that may be alone.
func write(r Rec) []byte {
	w := writer{bits.New(), fieldsOf(r.Kind)}
	w.Bits(8, uint64(r.Kind))
	w.nums(always, 40, uint64(r.Time))
	w.nums(epoch, 32, uint64(r.Epoch))
	w.nums(number, 32, uint64(r.Flow))
	w.nums(why, 8, uint64(r.Why))
	w.nums(rule, 8, uint64(r.Rule))
	w.text(name, 8, r.Name)
	w.text(text, 16, r.Text)
	w.nums(secret, 64, r.A, r.B)
	w.nums(mac, 48, uint64(r.Mac))
	w.nums(ip, 32, uint64(r.Ip))
	w.nums(until, 40, uint64(r.Until))
	w.place(from, r.From)
	w.place(to, r.To)
	w.who(r.Src)
	w.who(r.Dst)
	if w.has(key) {
		w.Bytes(flow.Bytes(r.Key))
	}
	w.hops(r.Path)
	return w.Done()
}

func (w writer) nums(of fields, width int, l ...uint64) {
	if w.has(of) {
		w.Bits(width, l...)
	}
}

// text has its length ahead.
func (w writer) text(of fields, width int, s string) {
	if w.has(of) {
		w.Bits(width, uint64(len(s)))
		w.Bytes([]byte(s))
	}
}

func (w writer) place(of fields, p api.Place) { w.nums(of, 8, uint64(p.Sw), uint64(p.Port)) }

func (w writer) who(who Who) {
	w.text(ends, 8, who.User)
	w.text(ends, 8, who.Host)
}

func (w writer) hops(l []api.Hop) {
	w.nums(path, 8, uint64(len(l)))
	for _, h := range l {
		w.nums(path, 8, uint64(h.Sw), uint64(h.In), uint64(h.Out))
	}
}

// reader reads those fields that a kind has.
type reader struct {
	*bits.In
	fields
}

// read asks for no errors: of bytes that are no record's it tells anything.
func read(b []byte) Rec {
	i := bits.Of(b)
	var r Rec
	r.Kind = int(i.Bits(8))
	d := reader{i, fieldsOf(r.Kind)}
	r.Time = int64(d.num(always, 40))
	r.Epoch = uint32(d.num(epoch, 32))
	r.Flow = uint32(d.num(number, 32))
	r.Why = int(d.num(why, 8))
	r.Rule = int(d.num(rule, 8))
	r.Name = d.text(name, 8)
	r.Text = d.text(text, 16)
	r.A, r.B = d.num(secret, 64), d.num(secret, 64)
	r.Mac = api.Mac(d.num(mac, 48))
	r.Ip = api.Ip(d.num(ip, 32))
	r.Until = int64(d.num(until, 40))
	r.From = d.place(from)
	r.To = d.place(to)
	r.Src = d.who()
	r.Dst = d.who()
	if d.has(key) {
		r.Key, _ = flow.Read(d.Bytes(flow.Size))
	}
	r.Path = d.hops()
	return r
}

func (d reader) num(of fields, width int) uint64 {
	if !d.has(of) {
		return 0
	}
	return d.Bits(width)
}

// text: where a kind has none, its length is 0.
func (d reader) text(of fields, width int) string { return string(d.Bytes(int(d.num(of, width)))) }

func (d reader) place(of fields) api.Place {
	sw, port := d.num(of, 8), d.num(of, 8)
	return api.Place{Sw: int(sw), Port: int(port)}
}

func (d reader) who() Who {
	user, host := d.text(ends, 8), d.text(ends, 8)
	return Who{user, host}
}

func (d reader) hops() []api.Hop {
	var l []api.Hop
	for range d.num(path, 8) {
		sw, in, out := d.Bits(8), d.Bits(8), d.Bits(8)
		l = append(l, api.Hop{Sw: int(sw), In: int(in), Out: int(out)})
	}
	return l
}
