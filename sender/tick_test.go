package sender_test

import (
	"fmt"
	"testing"

	"heliograph/api"
	"heliograph/sender"
)

// P14.3: the chapter's example: behind the report, Tick at 9, 10, 20 and 30.
func TestTickOfTheExample(t *testing.T) {
	s := begun(t, 250)
	s = of(sender.Take(s, report(s, 1, 1, rows(0, 100, 200, 50)...), 0)).s
	last := data(s, 100, 100, 2)
	for _, r := range []struct {
		now  int
		want answer
	}{
		{9, answer{s: s}},
		{10, answer{changed(s, func(s *api.Sending) { s.Asked, s.Due = 1, 20 }), []api.Segment{last}, api.OK}},
		{20, answer{changed(s, func(s *api.Sending) { s.Asked, s.Due = 2, 30 }), []api.Segment{last}, api.OK}},
		{30, answer{changed(s, func(s *api.Sending) { s.State, s.Reason, s.Asked, s.Due = 3, 1, 0, 40 }), []api.Segment{{Kind: 4, Source: 1, Session: 5, Reason: 1}}, api.OK}},
		{39, answer{s: changed(s, func(s *api.Sending) { s.State, s.Reason, s.Asked, s.Due = 3, 1, 0, 40 })}},
		{40, answer{changed(s, func(s *api.Sending) { s.State, s.Reason, s.Asked, s.Due = 3, 1, 1, 50 }), []api.Segment{cancel(s, 1)}, api.OK}},
		{55, answer{changed(s, func(s *api.Sending) { s.State, s.Reason, s.Asked, s.Due = 3, 1, 2, 65 }), []api.Segment{cancel(s, 1)}, api.OK}},
		{64, answer{s: changed(s, func(s *api.Sending) { s.State, s.Reason, s.Asked, s.Due = 3, 1, 2, 65 })}},
		{65, answer{s: changed(s, func(s *api.Sending) { s.State, s.Reason, s.Asked, s.Due = 4, 1, 2, 65 })}},
		{99, answer{s: changed(s, func(s *api.Sending) { s.State, s.Reason, s.Asked, s.Due = 4, 1, 2, 65 })}},
	} {
		a := of(sender.Tick(s, r.now))
		wants(t, fmt.Sprint("Tick at ", r.now), a, r.want)
		s = a.s
	}
}

// tickWants is what becomes of unlike, with that State and Asked, when it is due.
func tickWants(s api.Sending, now int) answer {
	want := answer{s: deep(s)}
	switch {
	case s.State == 1 && s.Asked < 9:
		want.s.Asked, want.s.Due = s.Asked+1, now+77
		want.sent = []api.Segment{data(s, 252, 45, 333)}
	case s.State == 1:
		want.s.State, want.s.Reason, want.s.Asked, want.s.Due = 3, 1, 0, now+77
		want.sent = []api.Segment{cancel(s, 1)}
	case s.State == 3 && s.Asked < 9:
		want.s.Asked, want.s.Due = s.Asked+1, now+77
		want.sent = []api.Segment{cancel(s, 6)}
	case s.State == 3:
		want.s.State = 4
	}
	return want
}

// P14.3: ahead of Due, at it and behind it, at each State, with each number of times that it has asked.
func TestTickAtEachState(t *testing.T) {
	for state := 1; state <= 4; state++ {
		for asked := range 10 {
			s := changed(unlike(), func(s *api.Sending) { s.State, s.Asked = state, asked })
			for _, now := range []int{0, 1, 4998, 4999} {
				wants(t, fmt.Sprintf("State %d, Asked %d, at %d", state, asked, now), of(sender.Tick(s, now)), answer{s: s})
			}
			for _, now := range []int{5000, 5001, 5077, 9999, maxTick} {
				wants(t, fmt.Sprintf("State %d, Asked %d, at %d", state, asked, now), of(sender.Tick(s, now)), tickWants(s, now))
			}
		}
	}
}

// P14.3: Due at its edges: 0 has come at each moment, what is behind MaxTick never comes.
func TestTickOfEachDue(t *testing.T) {
	for _, due := range []int{0, 1, maxTick - 1, maxTick, maxTick + 1, maxDue} {
		s := changed(unlike(), func(s *api.Sending) { s.Due = due })
		for _, now := range []int{0, 1, 2, maxTick - 1, maxTick} {
			want := answer{s: s}
			if now >= due {
				want = tickWants(s, now)
			}
			wants(t, fmt.Sprintf("Due %d at %d", due, now), of(sender.Tick(s, now)), want)
		}
	}
}

// P14.3: SegCancel says the Reason for which the session was given up, each one that there may be.
func TestTickSaysTheReason(t *testing.T) {
	for reason := range 256 {
		s := changed(unlike(), func(s *api.Sending) { s.State, s.Reason = 3, reason })
		a := of(sender.Tick(s, 5000))
		if a.e != api.OK || text(a.sent) != text([]api.Segment{cancel(s, reason)}) || a.s.Reason != reason {
			t.Errorf("Reason %d: %+v", reason, a)
		}
	}
}

// P14.3: one that may ask once; it waits anew from the moment at which it asked, not from when it was due.
func TestTickOfOneTry(t *testing.T) {
	x := starts(101)
	x.Tries, x.Wait = 1, 4096
	a := of(sender.New(x, 5))
	for _, r := range []struct{ now, due, asked, state, sends int }{{4100, 4101, 0, 1, 0}, {4101, 8197, 1, 1, 1}, {8200, 12296, 0, 3, 1}, {12295, 12296, 0, 3, 0}, {20000, 24096, 1, 3, 1}, {24096, 24096, 1, 4, 0}, {30000, 24096, 1, 4, 0}} {
		a = of(sender.Tick(a.s, r.now))
		if a.e != api.OK || a.s.Due != r.due || a.s.Asked != r.asked || a.s.State != r.state || len(a.sent) != r.sends {
			t.Errorf("at %d: %+v", r.now, a)
		}
	}
}

// P14.3: Cancel gives an open session up for ReasonUser, be it due or not; of all others nothing changes.
func TestCancelAtEachState(t *testing.T) {
	for state := 1; state <= 4; state++ {
		for _, asked := range []int{0, 4, 9} {
			for _, now := range []int{0, 1, 4999, 5000, 5001, maxTick - 1, maxTick} {
				s := changed(unlike(), func(s *api.Sending) { s.State, s.Asked = state, asked })
				want := answer{s: deep(s)}
				if state == 1 {
					want.s.State, want.s.Reason, want.s.Asked, want.s.Due = 3, 0, 0, now+77
					want.sent = []api.Segment{{Kind: 4, Source: 3, Session: 70000}}
				}
				wants(t, fmt.Sprintf("State %d, Asked %d, at %d", state, asked, now), of(sender.Cancel(s, now)), want)
			}
		}
	}
}

// P14.3: what was given up goes on so: it says SegCancel Tries times more, a second Cancel does nothing, an answer ends it.
func TestCancelGoesOn(t *testing.T) {
	a := of(sender.Cancel(begun(t, 250), 3))
	wants(t, "twice", of(sender.Cancel(a.s, 4)), answer{s: a.s})
	wants(t, "not due", of(sender.Tick(a.s, 12)), answer{s: a.s})
	over := changed(a.s, func(s *api.Sending) { s.State = 4 })
	wants(t, "its answer", of(sender.Take(a.s, bare(a.s, 5), 5)), answer{s: over})
	wants(t, "over", of(sender.Cancel(over, 5)), answer{s: over})
	wants(t, "a report of all", of(sender.Take(a.s, report(a.s, 1, 1, rows(0, 250)...), 5)), answer{s: a.s, sent: []api.Segment{ack(a.s, 1)}})
	for _, now := range []int{13, 23} {
		a = of(sender.Tick(a.s, now))
		if text(a.sent) != text([]api.Segment{cancel(a.s, 0)}) {
			t.Errorf("at %d: %+v", now, a.sent)
		}
	}
	if a = of(sender.Tick(a.s, 33)); a.s.State != 4 || a.s.Reason != 0 || len(a.sent) != 0 {
		t.Errorf("at 33: %+v", a)
	}
}

// P14.3, R2: ErrSending ahead of all else, then ErrArg.
func TestTickAndCancelRefuse(t *testing.T) {
	for what, s := range wrongSessions() {
		for _, now := range []int{0, 6000, maxTick, -1, maxTick + 1} {
			refuses(t, "Tick of "+what, of(sender.Tick(s, now)), api.ErrSending)
			refuses(t, "Cancel of "+what, of(sender.Cancel(s, now)), api.ErrSending)
		}
	}
	for state := 1; state <= 4; state++ {
		for _, now := range wrongMoments() {
			refuses(t, fmt.Sprintf("Tick of State %d at %d", state, now), of(sender.Tick(in(unlike(), state), now)), api.ErrArg)
			refuses(t, fmt.Sprintf("Cancel of State %d at %d", state, now), of(sender.Cancel(in(unlike(), state), now)), api.ErrArg)
		}
	}
}

// P14.3: many sessions, held against what is told once more.
func TestTickAndCancelHeld(t *testing.T) {
	d := chance(5)
	for range 5000 {
		s, now := d.sending(), d.IntN(50)
		if d.IntN(3) == 0 {
			s.Asked = s.Tries
		}
		wants(t, fmt.Sprint("Tick at ", now), of(sender.Tick(s, now)), toldTick(s, now))
		wants(t, fmt.Sprint("Cancel at ", now), of(sender.Cancel(s, now)), toldCancel(s, now))
	}
	for what, s := range rightSessions() {
		for _, now := range []int{0, 9, 10, 5000, maxTick} {
			wants(t, "Tick of "+what, of(sender.Tick(s, now)), toldTick(s, now))
			wants(t, "Cancel of "+what, of(sender.Cancel(s, now)), toldCancel(s, now))
		}
	}
}
