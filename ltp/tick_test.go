package ltp_test

import (
	"fmt"
	"math"
	"slices"
	"testing"

	"heliograph/api"
	"heliograph/ltp"
	"heliograph/sender"
)

// P16.4: ahead of each Due nothing is said, heard or changed.
func TestTickAheadOfDue(t *testing.T) {
	for _, now := range []int{0, 1, 4999, 5000} {
		wants(t, text(now), of(ltp.Tick(unlike(), now)), answer{l: unlike()})
	}
	for _, now := range []int{0, maxTick} {
		wants(t, text(now), of(ltp.Tick(bareLtp(), now)), answer{l: bareLtp()})
	}
}

// P16.4: one session after the other comes to its Due: each says and is heard what is its own.
func TestTickOneByOne(t *testing.T) {
	a, c, b := who{2, 200001}, who{2, 200007}, who{2, 200004}
	l := unlike()
	step := func(now int, f func(l *api.Ltp), said []api.Say, heard ...api.Heard) {
		t.Helper()
		got := of(ltp.Tick(l, now))
		wants(t, fmt.Sprint("at ", now), got, answer{l: changed(l, f), said: said, heard: heard})
		sound(t, got)
		l = got.l
	}
	step(5001, func(l *api.Ltp) { l.Out[0].Sending.Asked, l.Out[0].Sending.Due = 5, 5008 }, []api.Say{{To: 1, Segment: data(a, 450, 252, 45, 333)}})
	step(5002, func(l *api.Ltp) { l.Out[1].Sending.Asked, l.Out[1].Sending.Due = 4, 5009 }, []api.Say{{To: 4, Segment: cancel(c, 1)}})
	step(5003, func(l *api.Ltp) {
		s := &l.Out[2].Sending
		s.State, s.Asked, s.Due, s.Reason = 3, 0, 5010, 1
	}, []api.Say{{To: 1, Segment: cancel(b, 1)}}, api.Heard{Kind: 3, Peer: 1, Session: 200004})
	step(5004, func(l *api.Ltp) {
		l.In = l.In[1:]
		l.Closed = append(l.Closed, api.Closed{Source: 1, Session: 70000, Total: 450, Serial: 333})
	}, []api.Say{{To: 1, Segment: stop(who{1, 70000}, 4)}})
	step(5005, func(l *api.Ltp) {
		l.In = l.In[1:]
		l.Closed = append(l.Closed, api.Closed{Source: 3, Session: 70000, Total: 90, Serial: 44})
	}, []api.Say{{To: 3, Segment: stop(who{3, 70000}, 4)}})
	step(5007, func(l *api.Ltp) {
		l.In = nil
		l.Closed = append(l.Closed, api.Closed{Source: 1, Session: 70005, Total: 250})
	}, []api.Say{{To: 1, Segment: stop(who{1, 70005}, 4)}})
	step(5008, func(l *api.Ltp) {
		s := &l.Out[0].Sending
		s.State, s.Asked, s.Due, s.Reason = 3, 0, 5015, 1
	}, []api.Say{{To: 1, Segment: cancel(a, 1)}}, api.Heard{Kind: 3, Peer: 1, Session: 200001})
	step(5009, func(l *api.Ltp) { l.Out[1].Sending.Asked, l.Out[1].Sending.Due = 5, 5016 }, []api.Say{{To: 4, Segment: cancel(c, 1)}})
	step(5016, func(l *api.Ltp) {
		l.Out[0].Sending.Asked, l.Out[0].Sending.Due = 1, 5023
		l.Out[2].Sending.Asked, l.Out[2].Sending.Due = 1, 5023
		l.Out = gone(l.Out, 1)
	}, []api.Say{{To: 1, Segment: cancel(a, 1)}, {To: 1, Segment: cancel(b, 1)}})
}

// P16.4: all at once: those of Out in their order, then those of In in theirs; what is said and heard stands so, and what is remembered, too.
func TestTickAllAtOnce(t *testing.T) {
	l := changed(full(), func(l *api.Ltp) {
		for i := range l.Out {
			s := &l.Out[i].Sending
			s.State, s.Asked, s.Due, s.Reason = []int{1, 3}[i%2], 5, 40-i, 1
		}
		for i := range l.In {
			l.In[i].Due = 40 - i
		}
	})
	want := answer{l: deep(l)}
	want.l.Out, want.l.In = nil, nil
	for i, o := range l.Out {
		if i%2 == 0 {
			o.Sending.State, o.Sending.Asked, o.Sending.Due = 3, 0, 47
			want.l.Out = append(want.l.Out, o)
			want.says(o.To, cancel(who{2, o.Sending.Session}, 1))
			want.heard = append(want.heard, api.Heard{Kind: api.HeardLost, Peer: o.To, Session: o.Sending.Session})
		}
	}
	for _, s := range l.In {
		want.says(s.Source, stop(who{s.Source, s.Session}, 4))
		want.l.Closed = append(want.l.Closed, api.Closed{Source: s.Source, Session: s.Session, Total: s.Total, Serial: s.Serial})
	}
	want.l.Closed = want.l.Closed[8:]
	got := of(ltp.Tick(l, 40))
	wants(t, "all at once", got, want)
	sound(t, got)
	if len(got.heard) != 4 || len(got.l.Closed) != 16 || len(got.said) != 12 {
		t.Errorf("%+v", got)
	}
}

// P16.4: of all that end at once the last MaxClosed are remembered, whatever was remembered.
func TestTickRemembers(t *testing.T) {
	for _, had := range []int{0, 1, 7, 8, 9, 15, 16} {
		for in := range 9 {
			l := withClosed(withIn(full(), in), had)
			a := of(ltp.Tick(l, maxTick))
			sound(t, a)
			want := slices.Clone(l.Closed)
			for _, s := range l.In {
				want = append(want, api.Closed{Source: s.Source, Session: s.Session, Total: s.Total, Serial: s.Serial})
			}
			want = want[max(0, len(want)-16):]
			if !slices.Equal(a.l.Closed, want) || len(a.l.In) != 0 {
				t.Errorf("%d were remembered, %d end: %+v, want %+v", had, in, a.l.Closed, want)
			}
		}
	}
}

// P16.4: a session that is given up for want of an answer is heard to be lost once, then is given up for good and nothing is heard.
func TestTickGivesUp(t *testing.T) {
	for _, r := range []api.Rules{{Wait: 1, Tries: 1, Life: 1}, {Wait: 7, Tries: 5, Life: 77}, {Wait: 10, Tries: 2, Life: 100}, {Wait: 3, Tries: 16, Life: 9}, {Wait: 4096, Tries: 2, Life: 9}} {
		l, _ := ltp.New(3, 9, r)
		a := ofStart(ltp.Start(l, 5, fill(3, 260), 11))
		lost, gone := 0, 0
		for now := 11; gone == 0; now++ {
			a = of(ltp.Tick(a.l, now))
			sound(t, a)
			if len(a.heard) > 0 {
				wants(t, fmt.Sprint("at ", now), answer{heard: a.heard}, answer{heard: []api.Heard{{Kind: api.HeardLost, Peer: 5, Session: 9 * 65536}}})
				lost += now
			}
			if len(a.l.Out) == 0 {
				gone = now
			}
			if now > 11+2*(r.Tries+1)*r.Wait {
				t.Fatalf("%+v goes on", a.l)
			}
		}
		if lost != 11+r.Tries*r.Wait+r.Wait || gone != 11+2*(r.Tries+1)*r.Wait {
			t.Errorf("%+v: lost at %d, gone at %d", r, lost, gone)
		}
	}
}

// P16.4: ErrArg for what is no moment, of Tick and of Cancel, also where there is nothing to cancel.
func TestTickAndCancelRefuse(t *testing.T) {
	for _, l := range fine() {
		for _, now := range wrongMoments() {
			refuses(t, fmt.Sprint("Tick at ", now), of(ltp.Tick(l, now)), api.ErrArg)
			refuses(t, fmt.Sprint("Cancel at ", now), of(ltp.Cancel(l, 200001, now)), api.ErrArg)
			refuses(t, fmt.Sprint("Cancel of none at ", now), of(ltp.Cancel(l, 7, now)), api.ErrArg)
		}
	}
}

// P16.4, P16.2: ErrLtp ahead of all else, of Tick, Cancel and Start.
func TestWhatMayNotBe(t *testing.T) {
	for what, l := range wrongLtps() {
		for _, now := range []int{0, 5005, maxTick, -1, maxTick + 1} {
			refuses(t, what, of(ltp.Tick(l, now)), api.ErrLtp)
			refuses(t, what, of(ltp.Cancel(l, 200001, now)), api.ErrLtp)
			refuses(t, what, of(ltp.Cancel(l, 7, now)), api.ErrLtp)
			refuses(t, what, ofStart(ltp.Start(l, 1, fill(1, 9), now)), api.ErrLtp)
			refuses(t, what, ofStart(ltp.Start(l, 2, nil, now)), api.ErrLtp)
		}
	}
}

// P16.4: Tick of many sessions at many moments, held against what is told once more.
func TestTickHeld(t *testing.T) {
	d := chance(1)
	heard := 0
	for range 2000 {
		l := fine()[d.IntN(8)]
		for i := range l.Out {
			s := &l.Out[i].Sending
			s.State, s.Asked, s.Due = 1+2*d.IntN(2), 5-d.IntN(3), 40+d.IntN(20)
		}
		for i := range l.In {
			l.In[i].Due = 40 + d.IntN(20)
		}
		for _, now := range []int{39, 40 + d.IntN(20), 60} {
			a := of(ltp.Tick(l, now))
			wants(t, fmt.Sprint("at ", now), a, toldTick(l, now))
			sound(t, a)
			heard += len(a.heard)
		}
	}
	if heard < 1000 {
		t.Errorf("%d heard", heard)
	}
}

// P16.4: an open session is given up, and is heard to be lost; SegCancel is said to its To. One that is given up already stays as it is.
func TestCancel(t *testing.T) {
	for i, o := range unlike().Out {
		for _, now := range []int{0, 9, maxTick} {
			want := answer{l: unlike()}
			if o.Sending.State == 1 {
				s := &want.l.Out[i].Sending
				s.State, s.Asked, s.Due, s.Reason = 3, 0, now+7, 0
				want.says(o.To, cancel(who{2, o.Sending.Session}, 0))
				want.heard = []api.Heard{{Kind: api.HeardLost, Peer: o.To, Session: o.Sending.Session}}
			}
			got := of(ltp.Cancel(unlike(), o.Sending.Session, now))
			wants(t, fmt.Sprint(i, " at ", now), got, want)
			sound(t, got)
			wants(t, "once more", of(ltp.Cancel(got.l, o.Sending.Session, now+1-now/maxTick)), answer{l: got.l})
		}
	}
}

// P16.4: ErrNone for a number that no session of Out has, also if one of In or of Closed has it.
func TestCancelOfNone(t *testing.T) {
	for _, l := range fine() {
		for _, n := range []uint32{0, 1, 7, 60001, 70000, 70005, 71000, l.Next, 200002, math.MaxUint32} {
			refuses(t, text(n), of(ltp.Cancel(l, n, 9)), api.ErrNone)
		}
	}
}

// P16.4: each session of Out, held against what is told once more.
func TestCancelHeld(t *testing.T) {
	for i, l := range fine() {
		for n := uint32(200000); n < 200120; n++ {
			a := of(ltp.Cancel(l, n, 5001))
			wants(t, fmt.Sprint(n, " of ", i), a, toldCancel(l, n, 5001))
			if a.e == api.OK {
				sound(t, a)
			}
		}
	}
}

// P16.4: what SegCancel is answered with ends a session that was cancelled; nothing is heard then.
func TestCancelToItsEnd(t *testing.T) {
	a := of(ltp.Cancel(unlike(), 200001, 9))
	wants(t, "a report", of(ltp.Take(a.l, 1, report(who{2, 200001}, 77, 333, 450, rows(0, 450)...), 10)), answer{l: a.l, said: []api.Say{{To: 1, Segment: ack(who{2, 200001}, 77)}}})
	b := of(ltp.Take(a.l, 1, bare(who{2, 200001}, 5), 10))
	wants(t, "SegCancelAck", b, answer{l: changed(unlike(), func(l *api.Ltp) { l.Out = l.Out[1:] })})
	s, sent, e := sender.Cancel(unlike().Out[0].Sending, 9)
	if e != api.OK || !sender.Same(s, a.l.Out[0].Sending) || len(sent) != 1 {
		t.Error(s, sent, e)
	}
}
