package ltp_test

import (
	"fmt"
	"math"
	"slices"
	"testing"

	"heliograph/api"
	"heliograph/ltp"
	"heliograph/receiver"
	"heliograph/sender"
)

// gone is the list without the one at a place.
func gone[T any](l []T, i int) []T {
	return slices.Concat(l[:i], l[i+1:])
}

// inTurned is unlike, with the session of In at a place turned by a segment, and what that says.
func inTurned(t *testing.T, i int, x api.Segment, now int) answer {
	t.Helper()
	a := answer{l: unlike()}
	s, sent, e := receiver.Take(a.l.In[i], x, now)
	if e != api.OK || s.State != 1 {
		t.Fatal(s, e)
	}
	a.l.In[i] = s
	a.says(s.Source, sent...)
	return a
}

// P16.3: segments for a session of In that stays: of each Source, that one is turned, and says what it has to say to its Source.
func TestTakeIn(t *testing.T) {
	a, c, n := who{1, 70000}, who{3, 70000}, who{1, 70005}
	for _, r := range []struct {
		i int
		x api.Segment
		n int
	}{
		{0, data(a, 450, 0, 50, 0), 0}, {0, data(a, 450, 350, 100, 9), 1}, {0, data(a, 450, 10, 5, 9), 1}, {0, ack(a, 333), 0}, {0, bare(a, 7), 0},
		{1, data(c, 90, 0, 50, 0), 0}, {1, data(c, 90, 40, 50, 3), 1}, {1, ack(c, 1), 0}, {1, bare(c, 7), 0},
		{2, data(n, 250, 5, 100, 0), 0}, {2, data(n, 250, 5, 100, math.MaxUint32), 1}, {2, ack(n, 9), 0},
	} {
		for _, now := range []int{0, 4000, 5004, maxTick} {
			got := of(ltp.Take(unlike(), r.x.Source, r.x, now))
			wants(t, text(r.x), got, inTurned(t, r.i, r.x, now))
			sound(t, got)
			if len(got.said) != r.n || len(got.heard) != 0 || got.l.In[r.i].Due != now+77 {
				t.Errorf("%+v: %+v", r.x, got)
			}
		}
	}
}

// P16.3: a session of In whose block is whole: it is heard, and gone from In, and remembered as the last one.
func TestTakeInWhole(t *testing.T) {
	n := who{1, 70005}
	for _, r := range []struct {
		x      api.Segment
		serial uint32
	}{{data(n, 250, 249, 1, 0), 0}, {data(n, 250, 249, 1, 12), 1}, {data(n, 250, 150, 100, 0), 0}, {data(n, 250, 150, 100, 13), 1}} {
		want := answer{l: changed(unlike(), func(l *api.Ltp) {
			l.In = l.In[:2]
			l.Closed = append(l.Closed, api.Closed{Source: 1, Session: 70005, Total: 250, Done: true, Serial: r.serial})
		}), heard: []api.Heard{{Kind: 1, Peer: 1, Session: 70005, Block: fill(70005, 250)}}}
		if r.serial > 0 {
			want.says(1, report(n, 1, r.x.Serial, 250, rows(0, 250)...))
		}
		wants(t, text(r.x), of(ltp.Take(unlike(), 1, r.x, 9)), want)
	}
}

// P16.3: a session of In that is over: nothing is heard, it is gone from In, and remembered as one that was not done.
func TestTakeInOver(t *testing.T) {
	sessions := []who{{1, 70000}, {3, 70000}, {1, 70005}}
	for i, w := range sessions {
		s := unlike().In[i]
		another := data(w, s.Total, 20, 4, 5)
		another.Data[3]++
		for _, r := range []struct {
			x    api.Segment
			says api.Segment
		}{
			{cancel(w, 0), bare(w, 5)}, {cancel(w, 255), bare(w, 5)}, {another, stop(w, 3)}, {data(w, s.Total+1, 0, 1, 0), stop(w, 3)}, {data(w, s.Total-1, 0, 1, 5), stop(w, 3)},
		} {
			if len(s.Got) == 0 && r.x.Total == s.Total {
				continue // no byte of it stands otherwise
			}
			want := answer{l: changed(unlike(), func(l *api.Ltp) {
				l.In = gone(l.In, i)
				l.Closed = append(l.Closed, api.Closed{Source: w.source, Session: w.session, Total: s.Total, Serial: s.Serial})
			})}
			want.says(w.source, r.says)
			wants(t, text(r.x), of(ltp.Take(unlike(), w.source, r.x, 9)), want)
		}
	}
}

// P16.3: of more than MaxClosed the first one goes; with one fewer none does.
func TestTakeRemembers(t *testing.T) {
	n := who{1, 70005}
	for _, x := range []api.Segment{data(n, 250, 249, 1, 12), cancel(n, 0), data(n, 249, 0, 1, 0)} {
		for _, had := range []int{0, 1, 14, 15, 16} {
			l := withClosed(unlike(), had)
			a := of(ltp.Take(l, 1, x, 9))
			sound(t, a)
			want := append(slices.Clone(l.Closed), api.Closed{Source: 1, Session: 70005, Total: 250, Done: x.Total == 250, Serial: x.Serial / 12})
			want = want[max(0, len(want)-16):]
			if !slices.Equal(a.l.Closed, want) || len(a.l.Closed) != min(had+1, 16) {
				t.Errorf("%d were remembered: %+v, want %+v", had, a.l.Closed, want)
			}
		}
	}
}

// P16.3: of what is remembered a checkpoint is answered: by a report of all, if the block was whole and is the same, else by SegStop.
func TestTakeClosed(t *testing.T) {
	for i, c := range full().Closed {
		w := who{c.Source, c.Session}
		n := min(c.Total, 100)
		other := c.Total%512 + 1
		for _, serial := range []uint32{1, 2, 700, math.MaxUint32} {
			for _, x := range []api.Segment{data(w, c.Total, 0, n, serial), data(w, c.Total, c.Total-1, 1, serial), data(w, other, 0, 1, serial)} {
				want := answer{l: full()}
				if c.Done && x.Total == c.Total {
					follows := c.Serial + 1
					if c.Serial == math.MaxUint32 {
						follows = 1
					}
					want.l.Closed[i].Serial = follows
					want.says(c.Source, report(w, follows, serial, c.Total, rows(0, c.Total)...))
				} else {
					want.says(c.Source, stop(w, api.ReasonClosed))
				}
				wants(t, text(x), of(ltp.Take(full(), c.Source, x, 9)), want)
			}
		}
		want := answer{l: full()}
		for _, x := range []api.Segment{data(w, c.Total, 0, n, 0), data(w, other, 0, 1, 0), ack(w, 1), ack(w, c.Serial+1), bare(w, 7)} {
			if x.Kind == 3 && x.Serial == 0 {
				continue
			}
			wants(t, text(x), of(ltp.Take(full(), c.Source, x, 9)), want)
		}
		want.says(c.Source, bare(w, 5))
		for _, reason := range []int{0, 1, 255} {
			wants(t, "SegCancel", of(ltp.Take(full(), c.Source, cancel(w, reason), 9)), want)
		}
	}
	if api.ReasonClosed != 5 {
		t.Error("ReasonClosed")
	}
}

// P16.3: the Serial of what is remembered goes on, and round behind the greatest one.
func TestTakeClosedSerials(t *testing.T) {
	l := changed(unlike(), func(l *api.Ltp) { l.Closed[0].Serial = math.MaxUint32 - 2 })
	x := data(who{1, 60001}, 33, 3, 30, 4)
	for _, want := range []uint32{math.MaxUint32 - 1, math.MaxUint32, 1, 2, 3} {
		a := of(ltp.Take(l, 1, x, 9))
		sound(t, a)
		if a.l.Closed[0].Serial != want || len(a.said) != 1 || a.said[0].Segment.Serial != want || a.said[0].Segment.Checks != 4 || len(a.heard) != 0 {
			t.Fatalf("want %d: %+v", want, a)
		}
		l = a.l
	}
}

// P16.3: another byte of what is remembered is not seen: the block is gone. A session that has the number of another Source's is another one.
func TestTakeClosedAskNoBytes(t *testing.T) {
	x := data(who{1, 60001}, 33, 3, 30, 4)
	x.Data[7]++
	a := of(ltp.Take(unlike(), 1, x, 9))
	if len(a.said) != 1 || a.said[0].Segment.Kind != 2 || a.l.Closed[0].Serial != 6 {
		t.Errorf("%+v", a)
	}
	for _, w := range []who{{4, 60001}, {5, 60001}, {6, 60001}, {3, 60002}, {1, 60003}, {1, 1}} {
		a := of(ltp.Take(unlike(), w.source, data(w, 33, 3, 29, 4), 9))
		if sound(t, a); len(a.l.In) != 4 || a.l.In[3].Source != w.source || a.l.In[3].Session != w.session {
			t.Errorf("%+v: %+v", w, a)
		}
	}
}

// P16.3: data of a session of which nothing is known begins one, the last one of In.
func TestTakeNew(t *testing.T) {
	for _, w := range []who{{1, 70001}, {3, 70005}, {4, 70000}, {5, 1}, {6, math.MaxUint32}, {1, 200001}} {
		for _, x := range []api.Segment{data(w, 450, 0, 100, 0), data(w, 450, 350, 100, 9), data(w, 2, 1, 1, math.MaxUint32), data(w, 512, 511, 1, 0)} {
			for _, now := range []int{0, 1, maxTick} {
				s, sent, _ := receiver.New(x, now, 77)
				want := answer{l: changed(unlike(), func(l *api.Ltp) { l.In = append(l.In, s) })}
				want.says(w.source, sent...)
				a := of(ltp.Take(unlike(), w.source, x, now))
				wants(t, text(x), a, want)
				if sound(t, a); s.Due != now+77 || len(a.said) != int(min(x.Serial, 1)) || s.Source != w.source {
					t.Errorf("%+v", a)
				}
			}
		}
	}
}

// P16.3: data that is all of its block begins a session and ends it at once.
func TestTakeNewWhole(t *testing.T) {
	w := who{5, 70000}
	for _, n := range []int{1, 2, 99, 100} {
		for _, had := range []int{0, 15, 16} {
			for _, serial := range []uint32{0, 1, 800} {
				l := withClosed(unlike(), had)
				want := answer{l: deep(l), heard: []api.Heard{{Kind: 1, Peer: 5, Session: 70000, Block: fill(70000, n)}}}
				want.l.Closed = append(want.l.Closed, api.Closed{Source: 5, Session: 70000, Total: n, Done: true, Serial: min(serial, 1)})
				want.l.Closed = want.l.Closed[max(0, had-15):]
				if serial > 0 {
					want.says(5, report(w, 1, serial, n, rows(0, n)...))
				}
				wants(t, text([]any{n, had, serial}), of(ltp.Take(l, 5, data(w, n, 0, n, serial), 9)), want)
			}
		}
	}
}

// P16.3: with MaxSessions of In no more are begun, not even one that would end at once; with one fewer one is.
func TestTakeNewWithoutRoom(t *testing.T) {
	w := who{5, 70000}
	for n := range 9 {
		for _, x := range []api.Segment{data(w, 450, 0, 100, 0), data(w, 450, 0, 100, 7), data(w, 50, 0, 50, 0), data(w, 50, 0, 50, 7)} {
			l := withIn(full(), n)
			a := of(ltp.Take(l, 5, x, 9))
			sound(t, a)
			if n == 8 {
				wants(t, text(x), a, answer{l: l})
			} else if len(a.l.In)+len(a.heard) != n+1 {
				t.Errorf("%d take in: %+v", n, a)
			}
		}
	}
}

// P16.3: what is no data of a session of which nothing is known: SegCancel is answered, all others are not, with room and without.
func TestTakeOfNothingKnown(t *testing.T) {
	for _, l := range fine() {
		for _, w := range []who{{1, 9}, {3, 70005}, {5, 70000}, {6, math.MaxUint32}} {
			for _, x := range []api.Segment{ack(w, 1), ack(w, 333), bare(w, 7)} {
				wants(t, text(x), of(ltp.Take(l, w.source, x, 9)), answer{l: l})
			}
			for _, reason := range []int{0, 255} {
				want := answer{l: l}
				want.says(w.source, bare(w, 5))
				wants(t, "SegCancel", of(ltp.Take(l, w.source, cancel(w, reason), 9)), want)
			}
		}
	}
}

// P16.3: a session whose number one of Out has is none of In: forward and back are two things.
func TestTakeForwardOfTheNumberOfOut(t *testing.T) {
	w := who{1, 200001}
	a := of(ltp.Take(unlike(), 1, cancel(w, 3), 9))
	want := answer{l: unlike()}
	want.says(1, bare(w, 5))
	wants(t, "SegCancel", a, want)
}

// outTurned is unlike, with the session of Out at a place turned by a segment, and what that says.
func outTurned(t *testing.T, i int, x api.Segment, now int) answer {
	t.Helper()
	a := answer{l: unlike()}
	s, sent, e := sender.Take(a.l.Out[i].Sending, x, now)
	if e != api.OK || s.State%2 == 0 {
		t.Fatal(s, e)
	}
	a.l.Out[i].Sending = s
	a.says(a.l.Out[i].To, sent...)
	return a
}

// P16.3: segments for a session of Out that stays: that one is turned, and says what it has to say to its To.
func TestTakeOut(t *testing.T) {
	a, c, b := who{2, 200001}, who{2, 200007}, who{2, 200004}
	for _, r := range []struct {
		i, n int
		x    api.Segment
	}{
		{0, 1, report(a, 77, 1, 450)}, {0, 2, report(a, 77, 333, 450, rows(0, 400)...)}, {0, 1, report(a, 11, 333, 450, rows(0, 450)...)}, {0, 0, bare(a, 5)},
		{1, 1, report(c, 77, 1, 120, rows(0, 120)...)}, {1, 1, report(c, 11, 1, 120)},
		{2, 2, report(b, 1, 1, 60, rows(0, 59)...)}, {2, 1, report(b, 1, 9, 512)}, {2, 0, bare(b, 5)},
	} {
		for _, now := range []int{0, 4000, maxTick} {
			to := unlike().Out[r.i].To
			got := of(ltp.Take(unlike(), to, r.x, now))
			wants(t, text(r.x), got, outTurned(t, r.i, r.x, now))
			sound(t, got)
			if len(got.said) != r.n || len(got.heard) != 0 || r.n > 0 && got.said[0].To != to {
				t.Errorf("%+v: %+v", r.x, got)
			}
		}
	}
}

// P16.3: a session of Out that ends: what is heard of it hangs on the State that it had; it goes from Out.
func TestTakeOutEnds(t *testing.T) {
	a, c, b := who{2, 200001}, who{2, 200007}, who{2, 200004}
	for _, r := range []struct {
		i     int
		x     api.Segment
		says  []api.Segment
		heard int
	}{
		{0, report(a, 77, 333, 450, rows(0, 450)...), []api.Segment{ack(a, 77)}, api.HeardSent}, {0, report(a, 77, 1, 512, rows(0, 512)...), []api.Segment{ack(a, 77)}, api.HeardSent}, {2, report(b, 1, 9, 60, rows(0, 60)...), []api.Segment{ack(b, 1)}, api.HeardSent},
		{0, stop(a, 3), []api.Segment{bare(a, 7)}, api.HeardLost}, {2, stop(b, 255), []api.Segment{bare(b, 7)}, api.HeardLost},
		{1, stop(c, 0), []api.Segment{bare(c, 7)}, 0}, {1, bare(c, 5), nil, 0},
	} {
		to := unlike().Out[r.i].To
		want := answer{l: changed(unlike(), func(l *api.Ltp) { l.Out = gone(l.Out, r.i) })}
		want.says(to, r.says...)
		if r.heard > 0 {
			want.heard = []api.Heard{{Kind: r.heard, Peer: to, Session: r.x.Session}}
		}
		got := of(ltp.Take(unlike(), to, r.x, 9))
		wants(t, text(r.x), got, want)
		sound(t, got)
	}
}

// P16.3: what comes back for a session that there is not, or that goes to another node, is answered to whom it came from, and changes nothing.
func TestTakeBackOfNothingKnown(t *testing.T) {
	for _, l := range []api.Ltp{unlike(), full(), bareLtp()} {
		for _, from := range []int{1, 3, 4, 5, 6} {
			for _, session := range []uint32{1, 65536, 70000, 60001, 200001, 200007, 200004, math.MaxUint32} {
				if slices.ContainsFunc(l.Out, func(o api.Outward) bool { return o.To == from && o.Sending.Session == session }) {
					continue
				}
				w := who{2, session}
				for _, serial := range []uint32{1, 700, math.MaxUint32} {
					for _, x := range []api.Segment{report(w, serial, 1, 450, rows(0, 450)...), report(w, serial, 333, 1)} {
						want := answer{l: l}
						want.says(from, ack(w, serial))
						wants(t, text(x), of(ltp.Take(l, from, x, 9)), want)
					}
				}
				want := answer{l: l}
				wants(t, "SegCancelAck", of(ltp.Take(l, from, bare(w, 5), 9)), want)
				want.says(from, bare(w, 7))
				wants(t, "SegStop", of(ltp.Take(l, from, stop(w, 3), 9)), want)
			}
		}
	}
}

// P16.3: ErrArg for a from that is none, for a segment that may not be, for one of another Source, and for a moment that is none.
func TestTakeRefuses(t *testing.T) {
	for i, l := range []api.Ltp{unlike(), full(), bareLtp()} {
		for _, w := range []who{{1, 70000}, {1, 60001}, {2, 200001}, {4, 9}, {2, 9}} {
			for _, x := range segments(w, 450) {
				for _, from := range append(wrongNodes(), 2) {
					refuses(t, fmt.Sprint("from ", from, " to ", i), of(ltp.Take(l, from, x, 9)), api.ErrArg)
				}
				for _, now := range wrongMoments() {
					refuses(t, fmt.Sprint("at ", now), of(ltp.Take(l, 1, x, now)), api.ErrArg)
				}
				back := x.Kind == 2 || x.Kind == 5 || x.Kind == 6
				for _, from := range []int{1, 3, 4, 5, 6} {
					if back == (w.source == 2) && (back || from == w.source) {
						continue
					}
					refuses(t, fmt.Sprint(x, " from ", from), of(ltp.Take(l, from, x, 9)), api.ErrArg)
				}
			}
			for _, x := range wrongSegments(w) {
				for _, from := range []int{1, 2, 4} {
					refuses(t, fmt.Sprint(x, " from ", from), of(ltp.Take(l, from, x, 9)), api.ErrArg)
				}
			}
		}
	}
}

// P16.3: each Kind of segment, of sessions that are in Out, in In, in Closed and nowhere, from each node, held against what is told once more.
func TestTakeHeld(t *testing.T) {
	refused, said, heard := 0, 0, 0
	for i, l := range fine() {
		for _, w := range []who{{1, 70000}, {3, 70000}, {1, 70005}, {2, 200001}, {2, 200007}, {2, 200004}, {2, 200105}, {1, 60001}, {6, 70000}, {1, 60002}, {3, 60001}, {5, 71001}, {4, 71003}, {1, 61002}, {5, 70005}, {2, 9}, {3, 200001}, {2, 60001}} {
			for _, total := range []int{1, 33, 90, 120, 250, 450} {
				for j, x := range segments(w, total) {
					for from := 0; from <= 7; from++ {
						now := []int{0, 5005, maxTick}[(i+j+from)%3]
						a := of(ltp.Take(l, from, x, now))
						wants(t, fmt.Sprintf("%d: %+v from %d", i, x, from), a, toldTake(l, from, x, now))
						if a.e != api.OK {
							refused++
							continue
						}
						sound(t, a)
						said, heard = said+len(a.said), heard+len(a.heard)
					}
				}
			}
		}
	}
	if refused < 10000 || said < 3000 || heard < 100 {
		t.Errorf("%d refused, %d said, %d heard", refused, said, heard)
	}
}

// P16.3: ErrLtp ahead of all else, whatever is handed in beside.
func TestTakeOfWhatMayNotBe(t *testing.T) {
	right := data(who{1, 70000}, 450, 0, 50, 0)
	for what, l := range wrongLtps() {
		refuses(t, what, of(ltp.Take(l, 1, right, 9)), api.ErrLtp)
		refuses(t, what, of(ltp.Take(l, 2, right, 9)), api.ErrLtp)
		refuses(t, what, of(ltp.Take(l, 1, right, -1)), api.ErrLtp)
		refuses(t, what, of(ltp.Take(l, 0, api.Segment{}, maxTick+1)), api.ErrLtp)
		refuses(t, what, of(ltp.Take(l, 1, report(who{2, 200001}, 1, 1, 1), 9)), api.ErrLtp)
	}
}
