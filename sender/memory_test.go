package sender_test

import (
	"slices"
	"testing"

	"heliograph/api"
	"heliograph/sender"
)

// roomOf is a list with something ahead of it and behind its end, and all of that.
func roomOf[T any](l []T, filler T) (in, all []T) {
	all = slices.Concat(slices.Repeat([]T{filler}, 5), l, slices.Repeat([]T{filler}, 40))
	return all[5 : 5+len(l)], all
}

// handed is a session and a segment whose lists have room about them.
type handed struct {
	s     api.Sending
	x     api.Segment
	bytes [][]byte
	rows  [][]api.Claim
	seen  []uint32
}

func roomy(s api.Sending, x api.Segment) *handed {
	h := &handed{s: s, x: x, bytes: make([][]byte, 3), rows: make([][]api.Claim, 3)}
	h.s.Block, h.bytes[0] = roomOf(s.Block, 0xee)
	h.s.Last.Data, h.bytes[1] = roomOf(s.Last.Data, 0xdd)
	h.x.Data, h.bytes[2] = roomOf(x.Data, 0xcc)
	h.s.Got, h.rows[0] = roomOf(s.Got, api.Claim{At: 3, N: 333})
	h.s.Last.Claims, h.rows[1] = roomOf(s.Last.Claims, api.Claim{At: 4, N: 444})
	h.x.Claims, h.rows[2] = roomOf(x.Claims, api.Claim{At: 5, N: 555})
	h.s.Seen, h.seen = roomOf(s.Seen, 77)
	return h
}

// spoils writes over all that was handed in, the room about it, too.
func (h *handed) spoils() {
	for _, b := range h.bytes {
		clear(b)
	}
	for _, l := range h.rows {
		clear(l)
	}
	clear(h.seen)
}

// calls are all calls that answer a session, of one at a moment; one of them takes the segment.
func calls(h *handed, now int) []func() answer {
	return []func() answer{
		func() answer { return of(sender.New(h.s.Start, now)) },
		func() answer { return of(sender.Take(h.s, h.x, now)) },
		func() answer { return of(sender.Tick(h.s, now)) },
		func() answer { return of(sender.Cancel(h.s, now)) },
	}
}

// cases are sessions and segments by which each of the ways is gone.
func cases() []*handed {
	var out []*handed
	full := changed(unlike(), func(s *api.Sending) { s.Seen = serials(100, 32) })
	for state := 1; state <= 4; state++ {
		for _, asked := range []int{4, 9} {
			for _, s := range []api.Sending{unlike(), full} {
				s = changed(s, func(s *api.Sending) { s.State, s.Asked = state, asked })
				for _, x := range append(backs(s), report(s, 98, 332, rows(0, 40, 41, 500)...), report(s, 97, 333, rows(0, 512)...), report(s, 96, 333, spread(20)...), report(s, 95, 333)) {
					out = append(out, roomy(s, x))
				}
			}
		}
	}
	return out
}

// R3: no call changes what it is handed, the room behind its end neither; what is refused neither.
func TestCallsLeaveWhatTheyAreHanded(t *testing.T) {
	var all []*handed
	all = append(all, cases()...)
	for _, s := range wrongSessions() {
		all = append(all, roomy(s, report(s, 99, s.Last.Serial, rows(0, 10)...)))
	}
	for _, x := range forwards(unlike()) {
		all = append(all, roomy(unlike(), x))
	}
	for _, h := range all {
		was := text(h)
		for _, now := range []int{0, 6000, maxTick, -1} {
			for _, f := range calls(h, now) {
				f()
			}
		}
		sender.Gaps(h.s)
		sender.Check(h.s)
		sender.Same(h.s, h.s)
		sender.Same(h.s, unlike())
		sender.Same(unlike(), h.s)
		if text(h) != was {
			t.Fatalf("what was handed in is %+v now, it was %s", h, was)
		}
	}
}

// lists are all lists of an answer; each one can be written over, with the room behind its end.
func lists(a *answer) []func() {
	var out []func()
	segmentLists := func(x *api.Segment) {
		out = append(out, func() { spoil(x.Data, 0xaa) }, func() { spoil(x.Claims, api.Claim{At: 9, N: 999}) })
	}
	out = append(out, func() { spoil(a.s.Block, 0xbb) }, func() { spoil(a.s.Got, api.Claim{At: 8, N: 888}) }, func() { spoil(a.s.Seen, 66) })
	segmentLists(&a.s.Last)
	for i := range a.sent {
		segmentLists(&a.sent[i])
	}
	return out
}

func spoil[T any](l []T, x T) {
	l = l[:cap(l)]
	for i := range l {
		l[i] = x
	}
}

// parts tells each list of an answer by itself.
func parts(a answer) []string {
	out := []string{text(a.s.Block), text(a.s.Got), text(a.s.Seen), text(a.s.Last.Data), text(a.s.Last.Claims)}
	for _, x := range a.sent {
		out = append(out, text(x.Data), text(x.Claims))
	}
	return out
}

// R3: what is answered is new memory: no list of it shares any with another one, with what was handed in, or with another answer.
func TestAnswersShareNothing(t *testing.T) {
	for _, h := range cases() {
		was := text(h)
		for _, f := range calls(h, 6000) {
			other := f()
			want := text(other)
			for i := range lists(&other) {
				a := f()
				told := parts(a)
				lists(&a)[i]()
				for j, p := range parts(a) {
					if j != i && p != told[j] {
						t.Fatalf("the lists %d and %d of an answer to %s share memory", i, j, was)
					}
				}
			}
			if text(h) != was || text(other) != want {
				t.Fatalf("an answer to %s shares memory", was)
			}
		}
	}
}

// R3: nothing that is handed in is kept: what was answered stays when that is written over.
func TestAnswersStay(t *testing.T) {
	for i := range cases() {
		for c := range 4 {
			h := cases()[i]
			a := calls(h, 6000)[c]()
			gaps := sender.Gaps(h.s)
			was, wasGaps := text(a), text(gaps)
			h.spoils()
			if text(a) != was || text(gaps) != wasGaps {
				t.Fatalf("the answer %s is %+v now", was, a)
			}
		}
	}
}

// R3: Gaps answers new memory each time.
func TestGapsShareNothing(t *testing.T) {
	s := unlike()
	one, two := sender.Gaps(s), sender.Gaps(s)
	spoil(one, api.Claim{At: 1, N: 1})
	if text(two) != text(rows(0, 10, 30, 70, 250, 51, 341, 109)) || text(s) != text(unlike()) {
		t.Errorf("Gaps: %v", two)
	}
}

// R5: the same each time, whatever was called between.
func TestTheSameEachTime(t *testing.T) {
	for _, h := range cases() {
		for _, f := range calls(h, 6000) {
			want := text(f())
			sender.Cancel(h.s, 1)
			sender.New(starts(9), 4)
			if got := text(f()); got != want {
				t.Fatalf("%s, then %s", want, got)
			}
		}
	}
}

// P14.2: nil and empty lists are one, in what is handed in.
func TestNilAndEmptyAreOne(t *testing.T) {
	a := changed(unlike(), func(s *api.Sending) { s.Got, s.Seen, s.Last.Claims = nil, nil, nil })
	b := changed(a, func(s *api.Sending) {
		s.Got, s.Seen, s.Last.Claims = []api.Claim{}, []uint32{}, []api.Claim{}
	})
	x := report(a, 99, 333)
	y := x
	y.Claims, y.Data = []api.Claim{}, []byte{}
	if sender.Check(b) != api.OK || text(sender.Gaps(b)) != text(sender.Gaps(a)) {
		t.Error("Check, Gaps")
	}
	wants(t, "Take", of(sender.Take(b, y, 6000)), of(sender.Take(a, x, 6000)))
	wants(t, "Tick", of(sender.Tick(b, 6000)), of(sender.Tick(a, 6000)))
	wants(t, "Cancel", of(sender.Cancel(b, 6000)), of(sender.Cancel(a, 6000)))
}
