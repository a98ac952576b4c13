package receiver_test

import (
	"slices"
	"testing"

	"heliograph/api"
	"heliograph/receiver"
)

// roomOf is a list with something ahead of it and behind its end, and all of that.
func roomOf[T any](l []T, filler T) (in, all []T) {
	all = slices.Concat(slices.Repeat([]T{filler}, 5), l, slices.Repeat([]T{filler}, 40))
	return all[5 : 5+len(l)], all
}

// handed is a session and a segment whose lists have room about them.
type handed struct {
	s     api.Taking
	x     api.Segment
	bytes [][]byte
	rows  [][]api.Claim
}

func roomy(s api.Taking, x api.Segment) *handed {
	h := &handed{s: s, x: x, bytes: make([][]byte, 2), rows: make([][]api.Claim, 2)}
	h.s.Bytes, h.bytes[0] = roomOf(s.Bytes, 0xee)
	h.x.Data, h.bytes[1] = roomOf(x.Data, 0xcc)
	h.s.Got, h.rows[0] = roomOf(s.Got, api.Claim{At: 3, N: 333})
	h.x.Claims, h.rows[1] = roomOf(x.Claims, api.Claim{At: 5, N: 555})
	return h
}

// spoils writes over all that was handed in, the room about it, too.
func (h *handed) spoils() {
	for _, b := range h.bytes {
		clear(b)
	}
	for _, l := range h.rows {
		clear(l)
	}
}

// calls are all calls that answer a session, of one at a moment.
func calls(h *handed, now int) []func() answer {
	return []func() answer{
		func() answer { return of(receiver.New(h.x, now, 77)) },
		func() answer { return of(receiver.Take(h.s, h.x, now)) },
		func() answer { return of(receiver.Tick(h.s, now)) },
		func() answer {
			b, e := receiver.Block(h.s)
			return answer{s: api.Taking{Bytes: b}, e: e}
		},
	}
}

// cases are sessions and segments by which each of the ways is gone.
func cases() []*handed {
	var out []*handed
	for _, s := range append(states(), with(unlike(), spread(25, 4)...), with(unlike(), rows(0, 400)...)) {
		another, total := data(s, 0, 100, 12), data(s, 0, 10, 12)
		another.Data[11]++
		total.Total++
		for _, x := range append(forwards(s), data(s, 30, 70, 12), data(s, 30, 70, 0), data(s, 250, 51, 12), data(s, 400, 50, 12), data(s, 10, 20, 12), data(s, 50, 3, 12), data(s, 50, 3, 0), another, total) {
			out = append(out, roomy(s, x))
		}
	}
	one := api.Taking{Source: 2, Session: 8, Total: 60, State: 1, Life: 5, Due: 9}
	return append(out, roomy(with(one), data(one, 0, 60, 3)), roomy(with(one), data(one, 0, 60, 0)))
}

// R3: no call changes what it is handed, the room behind its end neither; what is refused neither.
func TestCallsLeaveWhatTheyAreHanded(t *testing.T) {
	all := cases()
	for _, s := range wrongSessions() {
		all = append(all, roomy(s, data(unlike(), 30, 70, 12)))
	}
	for _, x := range backs(unlike()) {
		all = append(all, roomy(unlike(), x))
	}
	for _, h := range all {
		was := text(h)
		for _, now := range []int{0, 6000, maxTick, -1} {
			for _, f := range calls(h, now) {
				f()
			}
		}
		receiver.Missing(h.s)
		receiver.Check(h.s)
		receiver.Same(h.s, h.s)
		receiver.Same(h.s, unlike())
		receiver.Same(unlike(), h.s)
		if text(h) != was {
			t.Fatalf("what was handed in is %+v now, it was %s", h, was)
		}
	}
}

// lists are all lists of an answer; each one can be written over, with the room behind its end.
func lists(a *answer) []func() {
	out := []func(){func() { spoil(a.s.Bytes, 0xbb) }, func() { spoil(a.s.Got, api.Claim{At: 8, N: 888}) }}
	for i := range a.sent {
		x := &a.sent[i]
		out = append(out, func() { spoil(x.Data, 0xaa) }, func() { spoil(x.Claims, api.Claim{At: 9, N: 999}) })
	}
	return out
}

func spoil[T any](l []T, x T) {
	l = l[:cap(l)]
	for i := range l {
		l[i] = x
	}
}

// parts tells each list of an answer by itself.
func parts(a answer) []string {
	out := []string{text(a.s.Bytes), text(a.s.Got)}
	for _, x := range a.sent {
		out = append(out, text(x.Data), text(x.Claims))
	}
	return out
}

// R3: what is answered is new memory: no list of it shares any with another one, with what was handed in, or with another answer.
func TestAnswersShareNothing(t *testing.T) {
	for _, h := range cases() {
		was := text(h)
		for _, f := range calls(h, 6000) {
			other := f()
			want := text(other)
			for i := range lists(&other) {
				a := f()
				told := parts(a)
				lists(&a)[i]()
				for j, p := range parts(a) {
					if j != i && p != told[j] {
						t.Fatalf("the lists %d and %d of an answer to %s share memory", i, j, was)
					}
				}
			}
			if text(h) != was || text(other) != want {
				t.Fatalf("an answer to %s shares memory", was)
			}
		}
	}
}

// R3: nothing that is handed in is kept: what was answered stays when that is written over.
func TestAnswersStay(t *testing.T) {
	for i := range cases() {
		for c := range 4 {
			h := cases()[i]
			a := calls(h, 6000)[c]()
			was := text(a)
			h.spoils()
			if text(a) != was {
				t.Fatalf("the answer %s is %+v now", was, a)
			}
		}
	}
}

// R5: the same each time, whatever was called between.
func TestTheSameEachTime(t *testing.T) {
	for _, h := range cases() {
		for _, f := range calls(h, 6000) {
			want := text(f())
			receiver.Tick(unlike(), maxTick)
			receiver.New(data(example(), 0, 9, 4), 4, 4)
			receiver.Take(unlike(), data(unlike(), 40, 9, 4), 4)
			if got := text(f()); got != want {
				t.Fatalf("%s, then %s", want, got)
			}
		}
	}
}

// R3: nil and empty lists are one, in what is handed in.
func TestNilAndEmptyAreOne(t *testing.T) {
	a := with(unlike())
	b := deep(a)
	a.Got, b.Got = nil, []api.Claim{}
	if receiver.Check(b) != api.OK || receiver.Missing(a) != 450 || receiver.Missing(b) != 450 {
		t.Error("Check, Missing")
	}
	for _, x := range forwards(a) {
		y := deepSegment(x)
		y.Claims = []api.Claim{}
		if y.Data == nil {
			y.Data = []byte{}
		}
		wants(t, "Take", of(receiver.Take(b, y, 6000)), of(receiver.Take(a, x, 6000)))
		wants(t, "New", of(receiver.New(y, 6000, 1)), of(receiver.New(x, 6000, 1)))
	}
	wants(t, "Tick", of(receiver.Tick(b, 6000)), of(receiver.Tick(a, 6000)))
}
