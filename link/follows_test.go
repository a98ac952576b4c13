package link_test

import (
	"bytes"
	"fmt"
	"slices"
	"testing"

	"heliograph/api"
	"heliograph/link"
)

// P12.6: what is done with one pair's flights touches no other pair's, among all pairs at once, the two ways between two nodes, too.
func TestOtherPairsAreNotTouched(t *testing.T) {
	start := with(t)
	for i, p := range pairs() {
		for k := range 3 {
			sends(t, start, fly(p[0], p[1], k, byte(i), byte(k)))
		}
	}
	for i, p := range pairs() {
		first := []api.Flight{fly(p[0], p[1], 0, byte(i), 0), fly(p[0], p[1], 1, byte(i), 1), fly(p[0], p[1], 2, byte(i), 2)}
		more := fly(p[0], p[1], 5, 0xee)
		turned := fly(p[0], p[1], 1, byte(i)^2, 1)
		rows := []struct {
			name string
			do   func(l *link.Links) api.Errno
			want []api.Flight
		}{
			{"Send", func(l *link.Links) api.Errno { return l.Send(more) }, append(slices.Clone(first), more)},
			{"Lose", func(l *link.Links) api.Errno { return l.Lose(p[0], p[1], 1) }, but(first, 1)},
			{"Double", func(l *link.Links) api.Errno { return l.Double(p[0], p[1], 1) }, append(slices.Clone(first), first[1])},
			{"Corrupt", func(l *link.Links) api.Errno { return l.Corrupt(p[0], p[1], 1, 6) }, []api.Flight{first[0], turned, first[2]}},
			{"Deliver", func(l *link.Links) api.Errno { _, e := l.Deliver(p[0], p[1], 9, 0); return e }, first[1:]},
		}
		for _, r := range rows {
			l := start.Copy()
			answers(t, r.name, r.do(l), api.OK)
			has(t, r.name, l, p[0], p[1], r.want...)
			for _, q := range pairs() {
				if q != p {
					has(t, r.name+" of another pair", l, q[0], q[1], told(t, start, q[0], q[1])...)
				}
			}
		}
	}
}

// P12.6: a bit that is turned twice is as it was, each of them, at once or with others between.
func TestTurnedTwice(t *testing.T) {
	l := with(t, fly(1, 2, 3, fill(1, 400)...), fly(1, 2, 3, fill(2, 5)...))
	was := look(t, l)
	for n, size := range []int{400, 5} {
		for bit := range 8 * size {
			answers(t, "Corrupt", l.Corrupt(1, 2, n, bit), api.OK)
			answers(t, "Corrupt again", l.Corrupt(1, 2, n, bit), api.OK)
		}
		same(t, "each turned twice", l, was)
		for range 2 {
			for bit := range 8 * size {
				answers(t, "Corrupt", l.Corrupt(1, 2, n, bit), api.OK)
			}
		}
		same(t, "all turned, then all again", l, was)
	}
	for bit := range 8 * 5 {
		answers(t, "Corrupt", l.Corrupt(1, 2, 1, bit), api.OK)
	}
	want := fill(2, 5)
	for i := range want {
		want[i] = 255 - want[i]
	}
	delivers(t, l, 1, 2, 3, 1, want...)
	delivers(t, l, 1, 2, 3, 0, fill(1, 400)...)
}

// model is links told once more: one list of all flights, as they were sent.
type model []api.Flight

// of answers the places of the pair's flights that have arrived by now.
func (m model) of(from, to, now int) []int {
	var out []int
	for i, x := range m {
		if x.From == from && x.To == to && x.At <= now {
			out = append(out, i)
		}
	}
	return out
}

func (m model) list(from, to int) []api.Flight {
	var out []api.Flight
	for _, i := range m.of(from, to, 1<<20) {
		out = append(out, m[i])
	}
	return out
}

func (m model) clone() model {
	var out model
	for _, x := range m {
		out = append(out, deep(x))
	}
	return out
}

func (m *model) send(x api.Flight) api.Errno {
	if x.From < 1 || x.From > 6 || x.To < 1 || x.To > 6 || x.From == x.To || x.At < 0 || x.At > 1<<20 || len(x.Bytes) < 1 || len(x.Bytes) > 400 {
		return api.ErrArg
	}
	if len(*m) == 512 {
		return api.ErrFull
	}
	*m = append(*m, deep(x))
	return api.OK
}

func (m *model) take(from, to, now, n int) ([]byte, api.Errno) {
	places := m.of(from, to, now)
	if n < 0 || n >= len(places) {
		return nil, api.ErrNone
	}
	b := (*m)[places[n]].Bytes
	*m = slices.Delete(*m, places[n], places[n]+1)
	return b, api.OK
}

func (m *model) double(from, to, n int) api.Errno {
	places := m.of(from, to, 1<<20)
	if n < 0 || n >= len(places) {
		return api.ErrNone
	}
	return m.send((*m)[places[n]])
}

func (m *model) corrupt(from, to, n, bit int) api.Errno {
	places := m.of(from, to, 1<<20)
	if n < 0 || n >= len(places) {
		return api.ErrNone
	}
	b := (*m)[places[n]].Bytes
	if bit < 0 || bit >= 8*len(b) {
		return api.ErrArg
	}
	b[bit/8] ^= [8]byte{128, 64, 32, 16, 8, 4, 2, 1}[bit%8]
	return api.OK
}

// dice are numbers in an order that is always the same.
type dice uint64

func (d *dice) to(n int) int {
	*d = *d*6364136223846793005 + 1442695040888963407
	return int(uint64(*d)>>33) % n
}

// step does one thing to links and to the model. Of nodes it knows as many as it is told, so that pairs get few or many flights.
func step(t *testing.T, l *link.Links, m *model, d *dice, nodes, sending int) {
	from, to, n, now := d.to(nodes+1), 1+d.to(nodes+1), d.to(8)-1, d.to(12)-1
	if d.to(4) == 0 {
		n = d.to(600)
	}
	switch k := d.to(10 + sending); k {
	case 0, 1, 2:
		want, e := m.take(from, to, now, n)
		if b, got := l.Deliver(from, to, now, n); got != e || !bytes.Equal(b, want) {
			t.Errorf("Deliver(%d, %d, %d, %d): % x, error %d; want % x, %d", from, to, now, n, b, got, want, e)
		}
	case 3, 4:
		_, e := m.take(from, to, 1<<20, n)
		answers(t, "Lose", l.Lose(from, to, n), e)
	case 5, 6:
		answers(t, "Double", l.Double(from, to, n), m.double(from, to, n))
	case 7, 8:
		bit := d.to(60) - 2
		answers(t, "Corrupt", l.Corrupt(from, to, n, bit), m.corrupt(from, to, n, bit))
	case 9:
		if got, want := l.Arrived(from, to, now), len(m.of(from, to, now)); got != want {
			t.Errorf("Arrived(%d, %d, %d): %d, want %d", from, to, now, got, want)
		}
	default:
		x := api.Flight{From: from, To: to, At: now, Bytes: fill(d.to(256), d.to(7))}
		answers(t, "Send", l.Send(x), m.send(x))
	}
}

// agree asks whether links tell what the model does.
func agree(t *testing.T, what string, l *link.Links, m model) {
	t.Helper()
	if l.Len() != len(m) {
		t.Errorf("%s: Len %d, want %d", what, l.Len(), len(m))
	}
	for _, p := range pairs() {
		has(t, what, l, p[0], p[1], m.list(p[0], p[1])...)
	}
}

// P12.1 to P12.6: long rows of calls, against the model; now and then the links go on as their copy, and the others must stay; iterators tell what was there.
func TestLinksAgainstModel(t *testing.T) {
	d := dice(1)
	for run := range 60 {
		l, m := with(t), model{}
		nodes, sending := 2+run%5, 5+5*(run%4)
		old, was := l.Copy(), m.clone()
		all, there := l.All(1, 2), m.list(1, 2)
		for k := range 400 {
			step(t, l, &m, &d, nodes, sending)
			if k%5 == 0 {
				agree(t, "the links", l, m)
			}
			if d.to(20) == 0 {
				agree(t, "the others", old, was)
				old, was = l, m.clone()
				l = l.Copy()
			}
			if d.to(20) == 0 {
				tells(t, "an iterator", all, there)
				all, there = l.All(1, 2), m.clone().list(1, 2)
			}
		}
		agree(t, "the links", l, m)
		if t.Failed() {
			t.Fatalf("run %d", run)
		}
	}
}

// P12.2, P12.4, P12.6: rows of calls about the greatest number of flights, against the model.
func TestFullLinksAgainstModel(t *testing.T) {
	d := dice(2)
	for _, nodes := range []int{2, 6} {
		l, m := with(t), model{}
		for i := range 511 {
			p := pairs()[i%len(pairs())]
			if nodes == 2 {
				p = [2]int{1 + i%2, 2 - i%2}
			}
			x := api.Flight{From: p[0], To: p[1], At: i % 10, Bytes: fill(i, 1+i%5)}
			answers(t, "Send", l.Send(x), m.send(x))
		}
		fulls := 0
		for k := range 1500 {
			step(t, l, &m, &d, nodes, 10)
			if len(m) == 512 {
				fulls++
			}
			if k%50 == 0 {
				agree(t, fmt.Sprint("nearly full, ", k), l, m)
			}
		}
		if fulls < 200 || fulls > 1400 {
			t.Errorf("full at %d of the steps", fulls)
		}
	}
}

// P12.6, R5: what was not lost and not delivered is there, and the same calls answer the same.
func TestSameCallsAnswerTheSame(t *testing.T) {
	var texts [3]string
	for i := range texts {
		d := dice(3)
		l, m := with(t), model{}
		for range 2000 {
			step(t, l, &m, &d, 6, 20)
		}
		texts[i] = look(t, l)
	}
	if texts[0] != texts[1] || texts[0] != texts[2] {
		t.Error("the same calls have answered otherwise")
	}
}
