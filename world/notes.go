package world

import (
	"bytes"
	"slices"

	"ostiary/api"
	"ostiary/bind"
	"ostiary/ledger"
)

// note keeps what the controller began and let in since it was asked last.
func (w *World) note() {
	if w.ctrl.Dead() {
		return
	}
	if e := w.ctrl.Epoch(); len(w.marks) == 0 || e > w.marks[len(w.marks)-1].Epoch {
		w.marks = keep(w.marks, Mark{w.step, e})
	}
	noted := w.noted()
	for _, f := range w.ctrl.Flows() {
		if !noted(f) {
			w.admitted = keep(w.admitted, w.admission(f))
		}
	}
}

// noted is a function that knows what is noted already. Epochs only rise, so it needs to know those of the last one alone.
func (w *World) noted() func(ledger.Flow) bool {
	keys := map[api.Key]struct{}{}
	var epoch uint32
	if n := len(w.admitted); n > 0 {
		epoch = w.admitted[n-1].Epoch
	}
	for _, a := range slices.Backward(w.admitted) {
		if a.Epoch != epoch {
			break
		}
		keys[a.Key] = struct{}{}
	}
	return func(f ledger.Flow) bool {
		_, ok := keys[f.Key]
		return ok && f.Epoch == epoch
	}
}

// admission is a flow with how things stand.
func (w *World) admission(f ledger.Flow) Admission {
	return Admission{Flow: f, Step: w.step, Text: w.ctrl.State().Policy(), Src: w.at(f.From), Dst: w.at(f.To)}
}

func (w *World) at(p api.Place) bind.Binding {
	l := w.ctrl.Bindings()
	i := slices.IndexFunc(l, func(b bind.Binding) bool { return b.At == p })
	if i < 0 {
		return bind.Binding{}
	}
	return l[i]
}

// keep: the first ones are kept.
func keep[T any](l []T, v T) []T {
	if len(l) >= mostNotes {
		return l
	}
	return append(l, v)
}

// apart is a list of the same things, each with lists of its own.
func apart[T any](l []T, of func(T) T) []T {
	var out []T
	for _, v := range l {
		out = append(out, of(v))
	}
	return out
}

func (f Frame) apart() Frame {
	f.Bytes, f.Path = bytes.Clone(f.Bytes), slices.Clone(f.Path)
	return f
}

func (d Delivery) apart() Delivery {
	d.Frame = d.Frame.apart()
	return d
}

func (a Admission) apart() Admission {
	a.Path = slices.Clone(a.Path)
	return a
}
