package receiver

import (
	"math"

	"heliograph/api"
)

// The reasons for which a session says that it stops.
const (
	reasonOther = 3 // what came does not go with what had come
	reasonLate  = 4 // nothing came for too long
)

// turn is a session while a call changes it, and what it sends meanwhile.
type turn struct {
	api.Taking
	sent []api.Segment
}

// begin answers the turn of a session that may be, at a moment; it shares no memory with what was handed in.
func begin(s api.Taking, now int) (turn, api.Errno) {
	if e := Check(s); e != api.OK {
		return turn{}, e
	}
	if !within(now, 0, api.MaxTick) {
		return turn{}, api.ErrArg
	}
	s.Bytes, s.Got = copied(s.Bytes), copied(s.Got)
	return turn{Taking: s}, api.OK
}

// say sends a segment of this session.
func (t *turn) say(x api.Segment) {
	x.Source, x.Session = t.Source, t.Session
	t.sent = append(t.sent, x)
}

func (t *turn) sayStop(reason int) {
	t.say(api.Segment{Kind: api.SegStop, Reason: reason})
}

// takeData leaves a session that is over as it is; another Total, or another byte, ends also one whose block is whole.
func (t *turn) takeData(x api.Segment) {
	switch {
	case t.State == api.SessionOver:
	case x.Total != t.Total || differs(t.Taking, x):
		t.letGo()
	default:
		t.putIn(x)
		if x.Check {
			t.report(x.Serial)
		}
	}
}

// letGo ends the session, with nothing left of what came in: there is no telling which of it was right.
func (t *turn) letGo() {
	t.State, t.Got = api.SessionOver, nil
	clear(t.Bytes)
	t.sayStop(reasonOther)
}

// putIn takes in data of which all bytes that had come in stand the same.
func (t *turn) putIn(x api.Segment) {
	copy(t.Bytes[x.Offset:], x.Data)
	var got []api.Claim
	together(t.Got, api.Claim{At: x.Offset, N: len(x.Data)}, func(row api.Claim) {
		got = append(got, row)
	})
	t.Got = got
	if whole(t.Taking) {
		t.State = api.SessionDone
	}
}

// report says what has come in, as far as a report has room for it.
func (t *turn) report(checks uint32) {
	t.Serial = next(t.Serial)
	claims := copied(t.Got[:min(len(t.Got), api.MaxClaims)])
	t.say(api.Segment{Kind: api.SegReport, Serial: t.Serial, Checks: checks, Upper: t.Total, Claims: claims})
}

// differs answers whether a byte that has come in stands otherwise in data of the same Total.
func differs(s api.Taking, x api.Segment) bool {
	found := false
rows:
	for _, row := range s.Got {
		from, to := max(row.At, x.Offset), min(row.At+row.N, x.Offset+len(x.Data))
		for i := from; i < to; i++ {
			if s.Bytes[i] != x.Data[i-x.Offset] {
				found = true
				break rows
			}
		}
	}
	return found
}

// together hands add the rows of a list with one more among them, rising, those that touch or lap over as one.
func together(rows []api.Claim, more api.Claim, add func(row api.Claim)) {
	for _, row := range rows {
		switch {
		case row.At+row.N < more.At:
			add(row)
		case more.At+more.N < row.At:
			add(more)
			more = row
		default:
			at := min(row.At, more.At)
			more = api.Claim{At: at, N: max(row.At+row.N, more.At+more.N) - at}
		}
	}
	add(more)
}

// next answers the serial behind one: 0 is none.
func next(serial uint32) uint32 {
	if serial == math.MaxUint32 {
		return 1
	}
	return serial + 1
}

func copied[T any](l []T) []T {
	return append([]T(nil), l...)
}
