package ltp

import (
	"math"

	"heliograph/api"
	"heliograph/receiver"
	"heliograph/sender"
)

// turn is all sessions while a call changes them, and what is said and heard meanwhile.
type turn struct {
	api.Ltp
	talk
}

// begin answers the turn of sessions that may be, at a moment; it shares no memory with what was handed in.
func begin(l api.Ltp, now int) (turn, api.Errno) {
	if e := Check(l); e != api.OK {
		return turn{}, e
	}
	if !within(now, 0, api.MaxTick) {
		return turn{}, api.ErrArg
	}
	return turn{Ltp: deep(l)}, api.OK
}

// start begins a session that sends.
func (t *turn) start(to int, block []byte, now int) {
	x := api.Start{Source: t.Node, Session: t.Next, Block: block, Wait: t.Rules.Wait, Tries: t.Rules.Tries}
	t.Next++
	t.Out = append(t.Out, api.Outward{To: to})
	t.turnOut(len(t.Out)-1, func(api.Sending) (api.Sending, []api.Segment, api.Errno) {
		return sender.New(x, now)
	})
}

// turnOut turns the session of Out at that place.
func (t *turn) turnOut(i int, call sendingCall) {
	t.Out[i] = turnedOut(t.Out[i], call, t.say, t.hear)
}

// turnIn turns the session of In at that place.
func (t *turn) turnIn(i int, call takingCall) {
	t.In[i] = turnedIn(t.In[i], call, t.say, t.hear)
}

// takeForward takes a segment from the Source of a session.
func (t *turn) takeForward(x api.Segment, now int) {
	k := key{x.Source, x.Session}
	if i := find(t.In, keyIn, k); i >= 0 {
		t.turnIn(i, func(s api.Taking) (api.Taking, []api.Segment, api.Errno) {
			return receiver.Take(s, x, now)
		})
	} else if i := find(t.Closed, keyClosed, k); i >= 0 {
		t.Closed[i] = asked(t.Closed[i], x, t.say)
	} else {
		t.takeNew(x, now)
	}
}

// takeNew takes a segment of a session of which nothing is known: data begins it, if there is room.
func (t *turn) takeNew(x api.Segment, now int) {
	switch {
	case x.Kind == api.SegCancel:
		t.say(x.Source, about(x, api.SegCancelAck))
	case x.Kind == api.SegData && len(t.In) < api.MaxSessions:
		t.In = append(t.In, api.Taking{})
		t.turnIn(len(t.In)-1, func(api.Taking) (api.Taking, []api.Segment, api.Errno) {
			return receiver.New(x, now, t.Rules.Life)
		})
	}
}

// takeBack takes a segment for a session of this node; one that is gone answers what would be asked again without end.
func (t *turn) takeBack(from int, x api.Segment, now int) {
	i := find(t.Out, numberOut, x.Session)
	switch {
	case i >= 0 && t.Out[i].To == from:
		t.turnOut(i, func(s api.Sending) (api.Sending, []api.Segment, api.Errno) {
			return sender.Take(s, x, now)
		})
	case x.Kind == api.SegReport:
		ack := about(x, api.SegReportAck)
		ack.Serial = x.Serial
		t.say(from, ack)
	case x.Kind == api.SegStop:
		t.say(from, about(x, api.SegStopAck))
	}
}

// tick turns all sessions, those that send first.
func (t *turn) tick(now int) {
	for i := range t.Out {
		t.turnOut(i, func(s api.Sending) (api.Sending, []api.Segment, api.Errno) {
			return sender.Tick(s, now)
		})
	}
	for i := range t.In {
		t.turnIn(i, func(s api.Taking) (api.Taking, []api.Segment, api.Errno) {
			return receiver.Tick(s, now)
		})
	}
}

// settled answers what the turn has come to: the sessions that have ended go, and those that took in are remembered.
func (t *turn) settled() (api.Ltp, []api.Say, []api.Heard, api.Errno) {
	var out []api.Outward
	for _, o := range t.Out {
		if !ended(o.Sending.State) {
			out = append(out, o)
		}
	}
	var in []api.Taking
	for _, s := range t.In {
		if ended(s.State) {
			t.remember(s)
		} else {
			in = append(in, s)
		}
	}
	t.Out, t.In = out, in
	return t.Ltp, t.said, t.heard, api.OK
}

// remember keeps what is asked of a session that has ended: of the last MaxClosed of them.
func (t *turn) remember(s api.Taking) {
	done := s.State == api.SessionDone
	t.Closed = append(t.Closed, api.Closed{Source: s.Source, Session: s.Session, Total: s.Total, Done: done, Serial: s.Serial})
	t.Closed = t.Closed[max(0, len(t.Closed)-api.MaxClosed):]
}

// asked answers what is remembered of a session behind a segment of it; who asks for a report must have one, or would ask on.
func asked(c api.Closed, x api.Segment, say sayer) api.Closed {
	switch {
	case x.Kind == api.SegCancel:
		say(x.Source, about(x, api.SegCancelAck))
	case x.Kind != api.SegData || !x.Check:
	case c.Done && x.Total == c.Total:
		c.Serial = next(c.Serial)
		report := about(x, api.SegReport)
		report.Serial, report.Checks, report.Upper = c.Serial, x.Serial, c.Total
		report.Claims = []api.Claim{{At: 0, N: c.Total}}
		say(x.Source, report)
	default:
		stop := about(x, api.SegStop)
		stop.Reason = api.ReasonClosed
		say(x.Source, stop)
	}
	return c
}

// next answers the serial behind one: 0 is none.
func next(serial uint32) uint32 {
	if serial == math.MaxUint32 {
		return 1
	}
	return serial + 1
}

func deep(l api.Ltp) api.Ltp {
	l.Out, l.In, l.Closed = copied(l.Out), copied(l.In), copied(l.Closed)
	for i := range l.Out {
		s := &l.Out[i].Sending
		s.Block, s.Got, s.Seen = copied(s.Block), copied(s.Got), copied(s.Seen)
		s.Last.Data, s.Last.Claims = copied(s.Last.Data), copied(s.Last.Claims)
	}
	for i := range l.In {
		s := &l.In[i]
		s.Bytes, s.Got = copied(s.Bytes), copied(s.Got)
	}
	return l
}

func copied[T any](l []T) []T {
	return append([]T(nil), l...)
}
