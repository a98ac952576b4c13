package receiver_test

import (
	"fmt"
	"math"
	"testing"

	"heliograph/api"
	"heliograph/receiver"
)

// P15.1: the chapter's example, each field of it.
func TestNewOfTheExample(t *testing.T) {
	c := data(example(), 200, 50, 1)
	bytes := make([]byte, 250)
	copy(bytes[200:], fill(250)[200:])
	want := answer{s: api.Taking{Source: 1, Session: 5, Total: 250, Bytes: bytes, Got: rows(200, 50), Serial: 1, State: api.SessionOpen, Life: 100, Due: 100}}
	want.sent = []api.Segment{{Kind: api.SegReport, Source: 1, Session: 5, Serial: 1, Checks: 1, Lower: 0, Upper: 250, Claims: rows(200, 50)}}
	wants(t, "New", of(receiver.New(c, 0, 100)), want)
}

// P15.1: a session that is whole with its first segment, and one that is not, with Check and without.
func TestNewOfEachLength(t *testing.T) {
	for _, r := range []struct{ total, at, n, state int }{
		{1, 0, 1, 2}, {2, 0, 2, 2}, {2, 0, 1, 1}, {2, 1, 1, 1}, {100, 0, 100, 2}, {100, 0, 99, 1}, {100, 1, 99, 1}, {101, 0, 100, 1}, {101, 1, 100, 1}, {512, 0, 100, 1}, {512, 412, 100, 1}, {512, 511, 1, 1}, {512, 0, 1, 1},
	} {
		for _, serial := range []uint32{0, 1, 7, math.MaxUint32} {
			s := with(api.Taking{Source: 6, Session: math.MaxUint32, Total: r.total, State: r.state, Life: 9, Due: 1009}, rows(r.at, r.n)...)
			x := data(s, r.at, r.n, serial)
			want := answer{s: s}
			if serial > 0 {
				want.s.Serial = 1
				want.sent = []api.Segment{report(s, 1, serial, rows(r.at, r.n)...)}
			}
			wants(t, fmt.Sprintf("%+v, Serial %d", r, serial), of(receiver.New(x, 1000, 9)), want)
		}
	}
}

// P15.1: the edges of all that may be.
func TestNewAtTheEdges(t *testing.T) {
	for _, source := range []int{1, 2, 6} {
		for _, session := range []uint32{1, 2, 1 << 31, math.MaxUint32} {
			for _, life := range []int{1, 2, 65535, 65536} {
				for _, now := range []int{0, 1, maxTick - 1, maxTick} {
					x := data(api.Taking{Source: source, Session: session, Total: 512}, 300, 100, 5)
					a := of(receiver.New(x, now, life))
					wants(t, fmt.Sprint(source, session, life, now), a, toldNew(x, now, life))
					if a.e != api.OK || a.s.Source != source || a.s.Session != session || a.s.Life != life || a.s.Due != now+life || a.s.State != api.SessionOpen {
						t.Errorf("%+v at %d: %+v", x, now, a)
					}
				}
			}
		}
	}
}

// P15.1: each Kind but SegData is ErrArg, though it may be and goes forward.
func TestNewOfEachKind(t *testing.T) {
	s := example()
	for _, x := range append(forwards(s), backs(s)...) {
		a := of(receiver.New(x, 5, 100))
		if x.Kind == api.SegData {
			wants(t, "data", a, toldNew(x, 5, 100))
			right(t, a)
			continue
		}
		refuses(t, fmt.Sprint("Kind ", x.Kind), a, api.ErrArg)
	}
	for _, kind := range append(far(), -1, 0, 8, 9) {
		x := data(s, 0, 10, 0)
		x.Kind = kind
		refuses(t, fmt.Sprint("Kind ", kind), of(receiver.New(x, 5, 100)), api.ErrArg)
	}
	refuses(t, "nothing", of(receiver.New(api.Segment{}, 5, 100)), api.ErrArg)
}

// wrongData are data segments that may not be, each for one reason.
func wrongData() map[string]api.Segment {
	out := map[string]api.Segment{}
	for what, f := range map[string]func(x *api.Segment){
		"Source 0": func(x *api.Segment) { x.Source = 0 }, "Source 7": func(x *api.Segment) { x.Source = 7 }, "Source -1": func(x *api.Segment) { x.Source = -1 }, "Session 0": func(x *api.Segment) { x.Session = 0 },
		"Total 0": func(x *api.Segment) { x.Total = 0 }, "Total 513": func(x *api.Segment) { x.Total = 513 }, "a great Total": func(x *api.Segment) { x.Total = math.MaxInt }, "Total -1": func(x *api.Segment) { x.Total = -1 },
		"no Data": func(x *api.Segment) { x.Data = nil }, "101 bytes": func(x *api.Segment) { x.Data = fill(101) },
		"Offset -1": func(x *api.Segment) { x.Offset = -1 }, "Data that passes Total": func(x *api.Segment) { x.Offset = 241 }, "a great Offset": func(x *api.Segment) { x.Offset = math.MaxInt }, "the least Offset": func(x *api.Segment) { x.Offset = math.MinInt },
		"Check without Serial": func(x *api.Segment) { x.Serial = 0 }, "Serial without Check": func(x *api.Segment) { x.Check = false },
		"Checks": func(x *api.Segment) { x.Checks = 1 }, "Lower": func(x *api.Segment) { x.Lower = 1 }, "Upper": func(x *api.Segment) { x.Upper = 250 }, "Reason": func(x *api.Segment) { x.Reason = 3 }, "Claims": func(x *api.Segment) { x.Claims = rows(0, 10) },
	} {
		x := data(example(), 0, 10, 4)
		f(&x)
		out[what] = x
	}
	none := data(example(), 0, 1, 0)
	none.Total, none.Data = 0, nil
	out["nothing of nothing"] = none
	return out
}

// P15.1, R2: each segment, moment and life that may not be.
func TestNewRefuses(t *testing.T) {
	for what, x := range wrongData() {
		for _, now := range []int{0, 5, -1, maxTick + 1} {
			refuses(t, what, of(receiver.New(x, now, 100)), api.ErrArg)
			refuses(t, what, of(receiver.New(x, now, 0)), api.ErrArg)
		}
	}
	for _, serial := range []uint32{0, 3} {
		x := data(example(), 200, 50, serial)
		for _, now := range wrongMoments() {
			refuses(t, fmt.Sprint("at ", now), of(receiver.New(x, now, 100)), api.ErrArg)
		}
		for _, life := range wrongLives() {
			refuses(t, fmt.Sprint("life ", life), of(receiver.New(x, 0, life)), api.ErrArg)
			refuses(t, fmt.Sprint("life ", life, " at -1"), of(receiver.New(x, -1, life)), api.ErrArg)
		}
	}
}

// P15.1: many segments, held against what is told once more.
func TestNewHeld(t *testing.T) {
	d := chance(1)
	for range 3000 {
		x, now, life := d.there(d.taking()), d.IntN(maxTick+1), 1+d.IntN(65536)
		wants(t, text(x), of(receiver.New(x, now, life)), toldNew(x, now, life))
	}
}
