package receiver_test

import (
	"fmt"
	"testing"

	"heliograph/api"
	"heliograph/receiver"
)

// P15.3: the chapter's example: Tick at 100 of what was ahead of b; just ahead of it nothing comes of it.
func TestTickOfTheExample(t *testing.T) {
	s := of(receiver.New(data(example(), 200, 50, 1), 0, 100)).s
	s = of(receiver.Take(s, data(example(), 0, 100, 0), 0)).s
	want := answer{s: deep(s)}
	wants(t, "at 99", of(receiver.Tick(s, 99)), want)
	want.s.State = api.SessionOver
	want.sent = []api.Segment{{Kind: api.SegStop, Source: 1, Session: 5, Reason: 4}}
	wants(t, "at 100", of(receiver.Tick(s, 100)), want)
	wants(t, "at 200", of(receiver.Tick(s, 200)), want)
}

// tickWants is what becomes of a session that is due.
func tickWants(s api.Taking) answer {
	want := answer{s: deep(s)}
	want.s.State = 4
	if s.State == 1 {
		want.sent = []api.Segment{{Kind: 6, Source: s.Source, Session: s.Session, Reason: 4}}
	}
	return want
}

// P15.3: ahead of Due, at it and behind it, at each State; what came in stays.
func TestTickAtEachState(t *testing.T) {
	for i, s := range append(states(), with(unlike())) {
		for _, now := range []int{0, 1, 4998, 4999} {
			wants(t, fmt.Sprintf("the state %d at %d", i, now), of(receiver.Tick(s, now)), answer{s: s})
		}
		for _, now := range []int{5000, 5001, 5077, 9999, maxTick} {
			wants(t, fmt.Sprintf("the state %d at %d", i, now), of(receiver.Tick(s, now)), tickWants(s))
		}
	}
}

// P15.3: Due at its edges: 0 has come at each moment, what is behind MaxTick never comes.
func TestTickOfEachDue(t *testing.T) {
	for _, due := range []int{0, 1, maxTick - 1, maxTick, maxTick + 1, maxDue - 1, maxDue} {
		for i, s := range states() {
			s.Due = due
			for _, now := range []int{0, 1, 2, maxTick - 1, maxTick} {
				want := answer{s: s}
				if now >= due {
					want = tickWants(s)
				}
				wants(t, fmt.Sprintf("the state %d, Due %d at %d", i, due, now), of(receiver.Tick(s, now)), want)
			}
		}
	}
}

// P15.3: a session that Tick has ended stays so, and says so once.
func TestTickTwice(t *testing.T) {
	for i, s := range states() {
		a := of(receiver.Tick(s, 5000))
		for _, now := range []int{0, 5000, 5001, maxTick} {
			wants(t, fmt.Sprint("the state ", i, " at ", now), of(receiver.Tick(a.s, now)), answer{s: a.s})
		}
	}
}

// P15.3: each segment that comes, of whichever Kind, has a session last on, by its Life.
func TestTickGoesByTheLastSegment(t *testing.T) {
	for _, x := range []api.Segment{data(example(), 0, 100, 0), data(example(), 0, 100, 3), data(example(), 200, 50, 0), ack(example(), 1), bare(example(), 7)} {
		s := of(receiver.New(data(example(), 200, 50, 1), 0, 100)).s
		for _, now := range []int{99, 150, 249} {
			s = of(receiver.Take(s, x, now)).s
			wants(t, fmt.Sprint(x, " at ", now), of(receiver.Tick(s, now+99)), answer{s: s})
			wants(t, fmt.Sprint(x, " at ", now), of(receiver.Tick(s, now+100)), tickWants(s))
		}
		s = of(receiver.Take(s, x, 10)).s // an earlier moment counts as well
		wants(t, "at 109", of(receiver.Tick(s, 109)), answer{s: s})
		wants(t, "at 110", of(receiver.Tick(s, 110)), tickWants(s))
	}
}

// P15.3, R2: ErrTaking ahead of all else, then ErrArg.
func TestTickRefuses(t *testing.T) {
	for what, s := range wrongSessions() {
		for _, now := range []int{0, 6000, maxTick, -1, maxTick + 1} {
			refuses(t, "Tick of "+what, of(receiver.Tick(s, now)), api.ErrTaking)
		}
	}
	for i, s := range states() {
		for _, now := range wrongMoments() {
			refuses(t, fmt.Sprintf("the state %d at %d", i, now), of(receiver.Tick(s, now)), api.ErrArg)
		}
	}
}

// P15.3: many sessions, held against what is told once more.
func TestTickHeld(t *testing.T) {
	d := chance(3)
	for range 10000 {
		s, now := d.taking(), d.IntN(50)
		wants(t, fmt.Sprint("Tick at ", now), of(receiver.Tick(s, now)), toldTick(s, now))
	}
	for what, s := range rightSessions() {
		for _, now := range []int{0, 1, 4999, 5000, maxTick} {
			wants(t, "Tick of "+what, of(receiver.Tick(s, now)), toldTick(s, now))
		}
	}
}
