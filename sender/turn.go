package sender

import (
	"iter"
	"math"
	"slices"

	"heliograph/api"
)

// turn is a session while a call changes it, and what it sends meanwhile.
type turn struct {
	api.Sending
	sent []api.Segment
}

// begin answers the turn of a session that may be, at a moment; it shares no memory with what was handed in.
func begin(s api.Sending, now int) (turn, api.Errno) {
	if e := Check(s); e != api.OK {
		return turn{}, e
	}
	if !within(now, 0, api.MaxTick) {
		return turn{}, api.ErrArg
	}
	return turn{Sending: deep(s)}, api.OK
}

// asks answers whether the session still waits for an answer.
func (t *turn) asks() bool {
	return t.State == api.SessionOpen || t.State == api.SessionCancel
}

// say sends a segment of this session.
func (t *turn) say(x api.Segment) {
	x.Source, x.Session = t.Source, t.Session
	t.sent = append(t.sent, x)
}

// takeReport answers each report, but goes by one that is new, and only while there is something to send.
func (t *turn) takeReport(x api.Segment, now int) {
	t.say(api.Segment{Kind: api.SegReportAck, Serial: x.Serial})
	if t.State != api.SessionOpen || slices.Contains(t.Seen, x.Serial) {
		return
	}
	t.Seen = append(t.Seen, x.Serial)
	t.Seen = t.Seen[max(0, len(t.Seen)-maxSeen):]
	t.Got = inBlock(x.Claims, len(t.Block))
	switch {
	case none(gaps(t.Sending)):
		t.State = api.SessionDone
	case x.Checks == t.Last.Serial:
		t.sendRows(gaps(t.Sending), next(t.Last.Serial), now)
	}
}

// sendRows sends rows of the block, of which there is one at least; the last segment is the session's checkpoint.
func (t *turn) sendRows(rows iter.Seq[api.Claim], serial uint32, now int) {
	for row := range rows {
		for piece := range pieces(row) {
			data := copied(t.Block[piece.At : piece.At+piece.N])
			t.say(api.Segment{Kind: api.SegData, Offset: piece.At, Total: len(t.Block), Data: data})
		}
	}
	last := &t.sent[len(t.sent)-1]
	last.Check, last.Serial = true, serial
	t.Last = deepSegment(*last)
	t.wait(now)
}

// wait has the session wait for the first answer to what it has just said.
func (t *turn) wait(now int) {
	t.Due, t.Asked = now+t.Wait, 0
}

func (t *turn) giveUp(reason, now int) {
	t.State, t.Reason = api.SessionCancel, reason
	t.wait(now)
	t.sayCancel()
}

func (t *turn) sayCancel() {
	t.say(api.Segment{Kind: api.SegCancel, Reason: t.Reason})
}

// ask says once more what the session waits for an answer to, or gives up that, if it was said often enough.
func (t *turn) ask(now int) {
	open := t.State == api.SessionOpen
	switch {
	case t.Asked == t.Tries && open:
		t.giveUp(api.ReasonTries, now)
		return
	case t.Asked == t.Tries:
		t.State = api.SessionOver
		return
	case open:
		t.say(deepSegment(t.Last))
	default:
		t.sayCancel()
	}
	t.Asked++
	t.Due = now + t.Wait
}

// gaps tells the rows of the block that are not claimed, rising.
func gaps(s api.Sending) iter.Seq[api.Claim] {
	return func(yield func(api.Claim) bool) {
		at := 0
		for _, c := range s.Got {
			if at < c.At && !yield(api.Claim{At: at, N: c.At - at}) {
				return
			}
			at = c.At + c.N
		}
		if at < len(s.Block) {
			yield(api.Claim{At: at, N: len(s.Block) - at})
		}
	}
}

func none(rows iter.Seq[api.Claim]) bool {
	for range rows {
		return false
	}
	return true
}

// pieces tells a row in rows that a data segment has room for.
func pieces(row api.Claim) iter.Seq[api.Claim] {
	return func(yield func(api.Claim) bool) {
		for row.N > api.MaxData {
			if !yield(api.Claim{At: row.At, N: api.MaxData}) {
				return
			}
			row.At, row.N = row.At+api.MaxData, row.N-api.MaxData
		}
		yield(row)
	}
}

// inBlock answers what rows have of a block of so many bytes: a report may speak of more.
func inBlock(rows []api.Claim, size int) []api.Claim {
	var out []api.Claim
	for _, c := range rows {
		if c.At < size {
			out = append(out, api.Claim{At: c.At, N: min(c.N, size-c.At)})
		}
	}
	return out
}

// next answers the serial behind one: 0 is none.
func next(serial uint32) uint32 {
	if serial == math.MaxUint32 {
		return 1
	}
	return serial + 1
}

func deep(s api.Sending) api.Sending {
	s.Block, s.Got, s.Seen = copied(s.Block), copied(s.Got), copied(s.Seen)
	s.Last = deepSegment(s.Last)
	return s
}

func deepSegment(x api.Segment) api.Segment {
	x.Data, x.Claims = copied(x.Data), copied(x.Claims)
	return x
}

func copied[T any](l []T) []T {
	return append([]T(nil), l...)
}
