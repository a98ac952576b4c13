package ltp_test

import (
	"slices"
	"testing"

	"heliograph/api"
	"heliograph/ltp"
)

// roomOf is a list with something ahead of it and behind its end, and all of that.
func roomOf[T any](l []T, filler T) (in, all []T) {
	all = slices.Concat(slices.Repeat([]T{filler}, 5), l, slices.Repeat([]T{filler}, 40))
	return all[5 : 5+len(l)], all
}

// handed is what is handed in, with room about each list of it; spoils writes over all of that.
type handed struct {
	l      api.Ltp
	from   int
	x      api.Segment
	block  []byte
	now    int
	all    []any
	spoils []func()
}

// roomy makes room about a list of what is handed in.
func roomy[T any](h *handed, l *[]T, filler T) {
	in, all := roomOf(*l, filler)
	*l = in
	h.all = append(h.all, all)
	h.spoils = append(h.spoils, func() { clear(all) })
}

func hands(l api.Ltp, from int, x api.Segment, now int) *handed {
	h := &handed{l: deep(l), from: from, x: x, block: fill(8, 130), now: now}
	for i := range h.l.Out {
		s := &h.l.Out[i].Sending
		roomy(h, &s.Block, 0xee)
		roomy(h, &s.Got, api.Claim{At: 3, N: 333})
		roomy(h, &s.Seen, 77)
		roomy(h, &s.Last.Data, 0xdd)
		roomy(h, &s.Last.Claims, api.Claim{At: 4, N: 444})
	}
	for i := range h.l.In {
		roomy(h, &h.l.In[i].Bytes, 0xcc)
		roomy(h, &h.l.In[i].Got, api.Claim{At: 5, N: 555})
	}
	roomy(h, &h.l.Out, outward(6, 9, 9))
	roomy(h, &h.l.In, taking(who{6, 9}, 9))
	roomy(h, &h.l.Closed, api.Closed{Source: 6, Session: 9, Total: 9, Serial: 9})
	roomy(h, &h.x.Data, 0xbb)
	roomy(h, &h.x.Claims, api.Claim{At: 6, N: 666})
	roomy(h, &h.block, 0xaa)
	return h
}

// said tells all that was handed in, the room about it, too.
func (h *handed) said() string {
	return text(h.l) + text(h.x) + text(h.block) + text(h.all)
}

// calls are all calls that answer sessions.
func (h *handed) calls() []func() answer {
	session := uint32(200001)
	if len(h.l.Out) > 0 {
		session = h.l.Out[len(h.l.Out)-1].Sending.Session
	}
	return []func() answer{
		func() answer { return of(ltp.Take(h.l, h.from, h.x, h.now)) },
		func() answer { return of(ltp.Tick(h.l, h.now)) },
		func() answer { return of(ltp.Cancel(h.l, session, h.now)) },
		func() answer { return ofStart(ltp.Start(h.l, 5, h.block, h.now)) },
	}
}

// cases are sessions and segments by which each of the ways is gone.
func cases() []*handed {
	var out []*handed
	out6, in, whole, closed, other, fresh := who{2, 200001}, who{1, 70000}, who{1, 70005}, who{1, 60001}, who{6, 70000}, who{5, 9}
	another := data(in, 450, 20, 4, 5)
	another.Data[3]++
	for _, x := range []api.Segment{
		data(in, 450, 0, 50, 0), data(in, 450, 0, 50, 4), another, cancel(in, 1), data(whole, 250, 200, 50, 9), data(closed, 33, 0, 33, 9), data(other, 512, 0, 100, 9), cancel(other, 1),
		data(fresh, 450, 0, 100, 0), data(fresh, 450, 0, 100, 7), data(fresh, 100, 0, 100, 0), data(fresh, 100, 0, 100, 7), cancel(fresh, 0), ack(fresh, 3),
		report(out6, 1, 333, 450, rows(0, 20, 30, 300)...), report(out6, 1, 333, 450, rows(0, 450)...), stop(out6, 1), bare(out6, 5),
	} {
		from := x.Source
		if from == 2 {
			from = 1
		}
		for i, l := range []api.Ltp{unlike(), withIn(withOut(full(), 7), 7), full()} {
			out = append(out, hands(l, from, x, []int{0, 5003, 6000}[i]))
		}
	}
	out = append(out, hands(unlike(), 4, report(out6, 1, 1, 450, rows(0, 450)...), 6000), hands(unlike(), 4, stop(out6, 1), 5002), hands(bareLtp(), 5, data(fresh, 450, 0, 100, 7), 3))
	return out
}

// R3: no call changes what it is handed, the room behind its end neither; what is refused neither.
func TestCallsLeaveWhatTheyAreHanded(t *testing.T) {
	all := cases()
	n := 0
	for _, l := range wrongLtps() {
		if n++; n%8 == 0 {
			all = append(all, hands(l, 1, data(who{1, 70000}, 450, 0, 50, 4), 6000))
		}
	}
	all = append(all, hands(unlike(), 2, data(who{1, 70000}, 450, 0, 50, 4), 6000), hands(unlike(), 1, data(who{3, 70000}, 90, 0, 50, 4), 6000), hands(unlike(), 1, data(who{1, 70000}, 450, 0, 50, 4), -1))
	for _, h := range all {
		was := h.said()
		for _, f := range h.calls() {
			f()
		}
		ltp.Check(h.l)
		ltp.Same(h.l, h.l)
		ltp.Same(h.l, unlike())
		ltp.Same(unlike(), h.l)
		if h.said() != was {
			t.Fatalf("what was handed in is %s now, it was %s", h.said(), was)
		}
	}
}

// lists are all lists of an answer: what each one has, and what writes over it, and over the room behind its end.
func lists(a *answer) (parts []func() string, spoils []func()) {
	for i := range a.l.Out {
		s := &a.l.Out[i].Sending
		add(&parts, &spoils, &s.Block, 0xee)
		add(&parts, &spoils, &s.Got, api.Claim{At: 3, N: 333})
		add(&parts, &spoils, &s.Seen, 77)
		add(&parts, &spoils, &s.Last.Data, 0xdd)
		add(&parts, &spoils, &s.Last.Claims, api.Claim{At: 4, N: 444})
	}
	for i := range a.l.In {
		add(&parts, &spoils, &a.l.In[i].Bytes, 0xcc)
		add(&parts, &spoils, &a.l.In[i].Got, api.Claim{At: 5, N: 555})
	}
	for i := range a.said {
		add(&parts, &spoils, &a.said[i].Segment.Data, 0xbb)
		add(&parts, &spoils, &a.said[i].Segment.Claims, api.Claim{At: 6, N: 666})
	}
	for i := range a.heard {
		add(&parts, &spoils, &a.heard[i].Block, 0xaa)
	}
	add(&parts, &spoils, &a.l.Closed, api.Closed{Source: 6, Session: 9, Total: 9, Serial: 9})
	return parts, spoils
}

func add[T any](parts *[]func() string, spoils *[]func(), l *[]T, filler T) {
	*parts = append(*parts, func() string { return text(*l) })
	*spoils = append(*spoils, func() {
		all := (*l)[:cap(*l)]
		for i := range all {
			all[i] = filler
		}
	})
}

// outer writes over the lists of an answer whose parts have lists themselves, and over the room behind their ends.
func outer(a *answer) []func() {
	var parts []func() string
	var spoils []func()
	add(&parts, &spoils, &a.l.Out, outward(6, 9, 9))
	add(&parts, &spoils, &a.l.In, taking(who{6, 9}, 9))
	add(&parts, &spoils, &a.said, api.Say{To: 9})
	add(&parts, &spoils, &a.heard, api.Heard{Kind: 9})
	return spoils
}

// R3: what is answered is new memory: no list of it shares any with another one, with what was handed in, or with another answer.
func TestAnswersShareNothing(t *testing.T) {
	for _, h := range cases() {
		was := h.said()
		for c, f := range h.calls() {
			other, a := f(), f()
			want := text(other)
			parts, spoils := lists(&a)
			for i, spoil := range spoils {
				told := make([]string, len(parts))
				for j, p := range parts {
					told[j] = p()
				}
				spoil()
				for j, p := range parts {
					if j != i && p() != told[j] {
						t.Fatalf("the lists %d and %d of the answer to the call %d share memory: %s", i, j, c, want)
					}
				}
			}
			for _, spoil := range outer(&a) {
				spoil()
			}
			if h.said() != was || text(other) != want {
				t.Fatalf("the answer to the call %d shares memory: %s", c, want)
			}
		}
	}
}

// R3: nothing that is handed in is kept: what was answered stays when that is written over.
func TestAnswersStay(t *testing.T) {
	for c := range 4 {
		for _, h := range cases() {
			a := h.calls()[c]()
			was := text(a)
			for _, f := range h.spoils {
				f()
			}
			if text(a) != was {
				t.Fatalf("the answer %s is %+v now", was, a)
			}
		}
	}
}

// R5: the same each time, whatever was called between.
func TestTheSameEachTime(t *testing.T) {
	for _, h := range cases() {
		for _, f := range h.calls() {
			want := text(f())
			ltp.Tick(full(), maxTick)
			ltp.New(3, 4, exampleRules())
			ltp.Take(full(), 1, data(who{1, 70000}, 450, 0, 50, 4), 4)
			if got := text(f()); got != want {
				t.Fatalf("%s, then %s", want, got)
			}
		}
	}
}

// R3: nil and empty lists are one, in what is handed in.
func TestNilAndEmptyAreOne(t *testing.T) {
	empty := func(l api.Ltp) api.Ltp {
		l = deep(l)
		for i := range l.Out {
			s := &l.Out[i].Sending
			s.Got, s.Seen, s.Last.Claims = emptied(s.Got), emptied(s.Seen), emptied(s.Last.Claims)
		}
		for i := range l.In {
			l.In[i].Got = emptied(l.In[i].Got)
		}
		l.Out, l.In, l.Closed = emptied(l.Out), emptied(l.In), emptied(l.Closed)
		return l
	}
	for _, l := range fine() {
		if ltp.Check(empty(l)) != api.OK || !ltp.Same(l, empty(l)) {
			t.Error("Check, Same")
		}
		for _, x := range append(segments(who{1, 70000}, 450), segments(who{2, 200001}, 450)...) {
			y := deepSegment(x)
			y.Data, y.Claims = emptied(y.Data), emptied(y.Claims)
			wants(t, "Take", of(ltp.Take(empty(l), 1, y, 6000)), of(ltp.Take(l, 1, x, 6000)))
		}
		wants(t, "Tick", of(ltp.Tick(empty(l), 6000)), of(ltp.Tick(l, 6000)))
		wants(t, "Cancel", of(ltp.Cancel(empty(l), 200001, 6000)), of(ltp.Cancel(l, 200001, 6000)))
		wants(t, "Start", ofStart(ltp.Start(empty(l), 5, fill(1, 9), 6000)), ofStart(ltp.Start(l, 5, fill(1, 9), 6000)))
	}
}

func emptied[T any](l []T) []T {
	if len(l) == 0 {
		return []T{}
	}
	return l
}
