package relay_test

import (
	"bytes"
	"cmp"
	"math/rand"
	"slices"
	"testing"

	"ostiary/api"
	"ostiary/ctl"
	"ostiary/entry"
	"ostiary/flow"
	"ostiary/frame"
	"ostiary/relay"
)

// waiting is a frame that the model holds.
type waiting struct {
	number, port int
	b            []byte
}

// model is a switch as the chapter tells it, with plain lists.
type model struct {
	sw, most, miss, quiet int
	life, epoch           uint32
	up                    map[int]bool
	open                  bool
	heard                 int64
	table                 []entry.Entry
	held                  []waiting
	next                  int
}

func (m *model) ports() int {
	n := 0
	for port := 8; port >= 1; port-- {
		n *= 2
		if m.up[port] {
			n++
		}
	}
	return n
}

func (m *model) rise(x ctl.Msg) relay.Act {
	x.Sw, x.Life = m.sw, m.life
	return up(x)
}

func (m *model) close() {
	m.table, m.held, m.open = nil, nil, false
	m.life++
}

func (m *model) plug(port int, is bool) []relay.Act {
	if port < 1 || port > 8 || m.up[port] == is {
		return nil
	}
	m.up[port] = is
	if m.open && is {
		return []relay.Act{m.rise(ctl.Msg{Kind: ctl.Changed, Ports: m.ports()})}
	}
	if m.open {
		m.close()
	}
	return nil
}

func over(e entry.Entry, now int64) bool {
	return e.Hard != 0 && now >= e.Born+int64(e.Hard) || e.Idle != 0 && now >= e.Used+int64(e.Idle)
}

func (m *model) tick(now int64) []relay.Act {
	m.table = slices.DeleteFunc(m.table, func(e entry.Entry) bool { return over(e, now) })
	if m.open && now > m.heard+int64(m.quiet) {
		m.close()
	}
	if !m.open && now%4 == 0 {
		return []relay.Act{m.rise(ctl.Msg{Kind: ctl.Join, Ports: m.ports()})}
	}
	return nil
}

// match is what the table has for a frame, as layer 17 tells it; it marks it as used.
func (m *model) match(port int, tag int64, b []byte, now int64) (entry.Entry, bool) {
	f, _ := frame.Parse(b)
	k, ok := flow.Of(f)
	for i, e := range m.table {
		want := int64(e.Epoch)
		if e.Enter {
			want = -1
		}
		if ok && e.Port == port && e.Key == k && tag == want && !over(e, now) {
			m.table[i].Used = now
			return m.table[i], true
		}
	}
	return entry.Entry{}, false
}

func (m *model) frame(port int, tag int64, b []byte, now int64) []relay.Act {
	if !m.up[port] {
		return []relay.Act{drop(api.ErrRange)}
	}
	if tag == -2 {
		if m.open && len(b) == 2 && min(b[0], b[1]) >= 1 && max(b[0], b[1]) <= 8 {
			return []relay.Act{m.rise(ctl.Msg{Kind: ctl.Seen, Port: port, Peer: api.Place{Sw: int(b[0]), Port: int(b[1])}})}
		}
		return []relay.Act{drop(api.ErrForm)}
	}
	if _, e := frame.Parse(b); e != api.OK {
		return []relay.Act{drop(e)}
	}
	if e, ok := m.match(port, tag, b, now); ok {
		out := int64(e.Epoch)
		if e.Last {
			out = -1
		}
		if m.up[e.Out] {
			return []relay.Act{forward(e.Out, out, b)}
		}
		return []relay.Act{drop(api.ErrDown)}
	}
	if tag != -1 {
		return []relay.Act{drop(api.ErrStale)}
	}
	if !m.open {
		return []relay.Act{drop(api.ErrState)}
	}
	var l []relay.Act
	if len(m.held) == m.miss {
		m.held = m.held[1:]
		l = append(l, drop(api.ErrFull))
	}
	m.held = append(m.held, waiting{m.next % 256, port, b})
	m.next++
	return append(l, m.rise(ctl.Msg{Kind: ctl.Miss, Epoch: m.epoch, Port: port, Buf: (m.next - 1) % 256, Frame: b}))
}

func (m *model) control(x ctl.Msg, now int64) []relay.Act {
	if !ctl.May(x) || x.Kind <= ctl.Seen || x.Sw != m.sw || x.Life != m.life || !m.open && x.Kind != ctl.Welcome {
		return nil
	}
	if x.Kind != ctl.Free && x.Kind != ctl.Probe {
		if x.Epoch < m.epoch {
			return nil
		}
		if x.Epoch > m.epoch {
			m.epoch, m.table, m.held = x.Epoch, nil, nil
		}
	}
	m.heard = now
	switch x.Kind {
	case ctl.Welcome:
		m.open = true
		return []relay.Act{m.rise(ctl.Msg{Kind: ctl.Alive, Epoch: m.epoch, Seq: x.Seq})}
	case ctl.Ping:
		return []relay.Act{m.rise(ctl.Msg{Kind: ctl.Alive, Epoch: m.epoch, Seq: x.Seq})}
	case ctl.Flush:
		return []relay.Act{m.rise(ctl.Msg{Kind: ctl.Done, Epoch: m.epoch, Seq: x.Seq})}
	case ctl.Add:
		return m.add(x, now)
	case ctl.Send:
		if m.up[x.Port] {
			return []relay.Act{forward(x.Port, -1, x.Frame)}
		}
		return []relay.Act{drop(api.ErrDown)}
	case ctl.Probe:
		if m.up[x.Port] {
			return []relay.Act{forward(x.Port, -2, []byte{byte(m.sw), byte(x.Port)})}
		}
		return nil
	}
	for i, w := range m.held {
		if w.number == x.Buf {
			m.held = slices.Concat(m.held[:i], m.held[i+1:])
			return []relay.Act{drop(api.ErrDenied)}
		}
	}
	return nil
}

func (m *model) add(x ctl.Msg, now int64) []relay.Act {
	l := slices.DeleteFunc(slices.Clone(m.table), func(e entry.Entry) bool { return e.Port == x.Port && e.Key == x.Key })
	if len(l) == m.most {
		return nil
	}
	m.table = append(l, entryOf(x, now, now))
	slices.SortFunc(m.table, func(a, b entry.Entry) int {
		return cmp.Or(cmp.Compare(a.Port, b.Port), bytes.Compare(flow.Bytes(a.Key), flow.Bytes(b.Key)))
	})
	acts := []relay.Act{m.rise(ctl.Msg{Kind: ctl.Done, Epoch: m.epoch, Seq: x.Seq})}
	if !x.Enter {
		return acts
	}
	var goes, stay []waiting
	for _, w := range m.held {
		f, _ := frame.Parse(w.b)
		if k, ok := flow.Of(f); ok && k == x.Key && w.port == x.Port {
			goes = append(goes, w)
		} else {
			stay = append(stay, w)
		}
	}
	m.held = stay
	for _, w := range goes {
		acts = append(acts, m.frame(w.port, -1, w.b, now)...)
	}
	return acts
}

// dice makes what comes, of which much is alike.
type dice struct{ *rand.Rand }

func (d dice) port() int {
	if d.Intn(12) == 0 {
		return d.Intn(10)
	}
	return 1 + d.Intn(3)
}

func (d dice) frame() []byte {
	l := [][]byte{arp, other, nought, tcp(0, ""), tcp(1, ""), tcp(1, "x"), tcp(2, ""), {1, 1}, {9, 1}, nil, tcp(1, "")[1:], make([]byte, 513)}
	if d.Intn(3) > 0 {
		return l[3+d.Intn(4)]
	}
	return l[d.Intn(len(l))]
}

func (d dice) tag(epoch uint32) int64 {
	if d.Intn(2) == 0 {
		return -1
	}
	return int64(epoch) + []int64{0, 0, 0, 1, -1, -int64(epoch) - 2, -int64(epoch) - 3}[d.Intn(7)]
}

// epoch is mostly the one that is now.
func (d dice) epoch(now uint32) uint32 {
	switch d.Intn(16) {
	case 0:
		return now + 1
	case 1:
		return max(now, 1) - 1
	}
	return now
}

func (d dice) msg(m *model) ctl.Msg {
	kinds := []int{ctl.Welcome, ctl.Ping, ctl.Add, ctl.Add, ctl.Add, ctl.Add, ctl.Add, ctl.Flush, ctl.Send, ctl.Free, ctl.Free, ctl.Probe, ctl.Join, ctl.Miss, 0, 14}
	x := ctl.Msg{Kind: kinds[d.Intn(len(kinds))], Sw: m.sw, Life: m.life}
	if d.Intn(20) == 0 {
		x.Sw = 1 + d.Intn(8)
	}
	if d.Intn(20) == 0 {
		x.Life += uint32(d.Intn(3)) - 1
	}
	switch x.Kind {
	case ctl.Free:
		x.Buf = max(m.next-1-d.Intn(5), 0) % 256
		return x
	case ctl.Probe:
		x.Port = d.port()
		return x
	}
	x.Epoch = d.epoch(m.epoch)
	if x.Kind != ctl.Send {
		x.Seq = d.Uint32()
	}
	switch x.Kind {
	case ctl.Send:
		x.Port, x.Frame = d.port(), d.frame()
	case ctl.Add:
		x.Port, x.Out, x.Enter, x.Last = d.port(), d.port(), d.Intn(2) == 0, d.Intn(2) == 0
		x.Idle, x.Hard = []int{0, 0, 1, 3, 6}[d.Intn(5)], []int{0, 0, 0, 2, 9}[d.Intn(5)]
		if d.Intn(6) > 0 {
			x.Key = keyOf(d.Intn(3))
		}
	}
	return x
}

// fair fails if a frame went out but as an entry of the switch's epoch says, or as the controller says, or of a switch that is not open.
func fair(t *testing.T, l []relay.Act, open bool, epoch uint32, entries []entry.Entry, told bool) {
	t.Helper()
	for _, e := range entries {
		if e.Epoch != epoch || !open {
			t.Errorf("%+v stands in epoch %d, open: %t", e, epoch, open)
		}
	}
	for _, a := range l {
		if a.Kind != relay.Forward || told {
			continue
		}
		if !open || a.Tag != -1 && a.Tag != int64(epoch) {
			t.Errorf("%+v went out in epoch %d, open: %t", a, epoch, open)
		}
		f, _ := frame.Parse(a.Frame)
		k, _ := flow.Of(f)
		if !slices.ContainsFunc(entries, func(e entry.Entry) bool { return e.Key == k && e.Out == a.Port && e.Last == (a.Tag == -1) }) {
			t.Errorf("%+v went out, but by none of %+v", a, entries)
		}
	}
}

// P18.3 to P18.7.
func TestByChance(t *testing.T) {
	counts := map[string]int{}
	for seed := range int64(300) {
		d := dice{rand.New(rand.NewSource(seed))}
		m := &model{sw: 1 + d.Intn(8), most: 1 + d.Intn(5), miss: 1 + d.Intn(6), quiet: 1 + d.Intn(8), life: 1, up: map[int]bool{}}
		r := made(t, m.sw, m.most, m.miss, m.quiet)
		now := int64(0)
		for port := 1; port <= 3; port++ {
			acts(t, r.Plug(port, true, now), m.plug(port, true)...)
		}
		for range 300 {
			var got, want []relay.Act
			told := false
			switch n := d.Intn(100); {
			case n < 45:
				port, tag, b := d.port(), d.tag(m.epoch), d.frame()
				if tag == relay.Probing && d.Intn(2) == 0 {
					b = []byte{byte(d.Intn(10)), byte(d.Intn(10))}
				}
				got, want = r.Frame(port, tag, b, now), m.frame(port, tag, b, now)
			case n < 85:
				x := d.msg(m)
				if !m.open && d.Intn(3) == 0 {
					x = ctl.Msg{Kind: ctl.Welcome, Sw: m.sw, Life: m.life, Epoch: m.epoch + 1}
				}
				told = x.Kind == ctl.Send || x.Kind == ctl.Probe
				got, want = r.Control(x, now), m.control(x, now)
			case n < 97:
				now += int64(d.Intn(2))
				got, want = r.Tick(now), m.tick(now)
			default:
				port, is := d.port(), d.Intn(3) > 0
				got, want = r.Plug(port, is, now), m.plug(port, is)
			}
			acts(t, got, want...)
			is(t, r, m.life, m.epoch, m.open, m.ports(), len(m.held), m.table...)
			fair(t, got, r.Open(), r.Epoch(), r.Entries(), told)
			if t.Failed() {
				t.Fatal("seed", seed)
			}
			count(counts, want)
		}
	}
	enough(t, counts)
}

// count tells what came of it, so that no kind of act is left out by chance.
func count(counts map[string]int, l []relay.Act) {
	for _, a := range l {
		switch {
		case a.Kind == relay.Drop:
			counts["drop "+string(rune('0'+a.Why))]++
		case a.Kind == relay.Up:
			counts["up "+string(rune('0'+a.Msg.Kind))]++
		default:
			counts["forward "+string(rune('0'+min(a.Tag, 0)+2))]++
		}
	}
	if len(l) > 1 && l[0].Msg.Kind == ctl.Done {
		counts["let go"]++
	}
}

func enough(t *testing.T, counts map[string]int) {
	t.Helper()
	var want []string
	for _, e := range []api.Errno{api.ErrRange, api.ErrForm, api.ErrLong, api.ErrDown, api.ErrStale, api.ErrState, api.ErrFull, api.ErrDenied} {
		want = append(want, "drop "+string(rune('0'+e)))
	}
	for _, kind := range []int{ctl.Join, ctl.Alive, ctl.Miss, ctl.Done, ctl.Changed, ctl.Seen} {
		want = append(want, "up "+string(rune('0'+kind)))
	}
	for _, what := range append(want, "forward 0", "forward 1", "forward 2", "let go") {
		if counts[what] < 100 {
			t.Error("too few:", what, counts[what], counts)
		}
	}
}
