package receiver_test

import (
	"fmt"
	"math"
	"testing"

	"heliograph/api"
	"heliograph/receiver"
	"heliograph/segment"
)

// P15.2: the chapter's examples, at the moment 0, each field of them.
func TestTakeOfTheExample(t *testing.T) {
	a, b, c := data(example(), 0, 100, 0), data(example(), 100, 100, 2), data(example(), 200, 50, 1)
	s := of(receiver.New(c, 0, 100)).s
	bytes := fill(250)
	clear(bytes[100:200])
	want := answer{s: api.Taking{Source: 1, Session: 5, Total: 250, Bytes: bytes, Got: rows(0, 100, 200, 50), Serial: 1, State: api.SessionOpen, Life: 100, Due: 100}}
	got := of(receiver.Take(s, a, 0))
	wants(t, "Take(a)", got, want)
	if _, e := receiver.Block(got.s); e != api.ErrNone || receiver.Missing(got.s) != 100 {
		t.Errorf("Block: error %d, Missing %d", e, receiver.Missing(got.s))
	}
	want.s.Bytes, want.s.Got, want.s.Serial, want.s.State = fill(250), rows(0, 250), 2, api.SessionDone
	want.sent = []api.Segment{{Kind: api.SegReport, Source: 1, Session: 5, Serial: 2, Checks: 2, Lower: 0, Upper: 250, Claims: rows(0, 250)}}
	got = of(receiver.Take(got.s, b, 0))
	wants(t, "Take(b)", got, want)
	if l, e := receiver.Block(got.s); e != api.OK || text(l) != text(fill(250)) || receiver.Missing(got.s) != 0 {
		t.Errorf("Block: %v, error %d", l, e)
	}
	b.Data[5]++
	want.s.Bytes, want.s.Got, want.s.State = make([]byte, 250), nil, api.SessionOver
	want.sent = []api.Segment{{Kind: api.SegStop, Source: 1, Session: 5, Reason: 3}}
	wants(t, "Take(b with another byte)", of(receiver.Take(got.s, b, 0)), want)
}

// P15.2: each Kind that goes forward, at each State.
func TestTakeOfEachKindAtEachState(t *testing.T) {
	for i, s := range states() {
		for _, x := range append(forwards(s), data(s, 30, 70, 12), data(s, 30, 70, 0)) {
			want := answer{s: changed(s, func(s *api.Taking) { s.Due = 6077 })}
			switch {
			case x.Kind == 4:
				want.sent = []api.Segment{bare(s, 5)}
				if s.State == 1 {
					want.s.State = 4
				}
			case x.Kind == 1 && s.State == 1:
				has := come(s)
				for j := range x.Data {
					has[x.Offset+j] = true
				}
				want.s = with(want.s, runs(has, true)...)
			}
			if x.Check && s.State != 4 {
				want.s.Serial = 334
				want.sent = []api.Segment{report(s, 334, x.Serial, want.s.Got...)}
			}
			wants(t, fmt.Sprintf("the State %d of %d, %+v", s.State, i, x), of(receiver.Take(s, x, 6000)), want)
		}
	}
}

// P15.2: SegCancel is answered whatever its Reason is; an open session is over and keeps what came in, others stay as they are.
func TestTakeOfACancelAtEachState(t *testing.T) {
	for i, s := range states() {
		for _, reason := range []int{0, 1, 2, 3, 4, 5, 254, 255} {
			want := answer{s: changed(s, func(s *api.Taking) { s.Due = 6077 }), sent: []api.Segment{{Kind: 5, Source: 3, Session: 70000}}}
			want.s.State = []int{4, 2, 4, 4, 4}[i]
			wants(t, fmt.Sprint("the state ", i, ", Reason ", reason), of(receiver.Take(s, cancel(s, reason), 6000)), want)
		}
	}
}

// ends is what becomes of a session by what does not go with it.
func ends(s api.Taking, now int) answer {
	want := answer{s: in(with(s), 4), sent: []api.Segment{{Kind: 6, Source: s.Source, Session: s.Session, Reason: 3}}}
	want.s.Due = now + s.Life
	return want
}

// P15.2: data of another Total ends a session that is not over, be its bytes the same, new, or others.
func TestTakeOfAnotherTotal(t *testing.T) {
	for i, s := range states() {
		for _, total := range []int{100, 449, 451, 512} {
			for _, serial := range []uint32{0, 12} {
				for _, at := range []int{0, 10, 40, 60} {
					x := data(s, at, 20, serial)
					x.Total = total
					want := ends(s, 6000)
					if s.State == 4 {
						want = answer{s: changed(s, func(s *api.Taking) { s.Due = 6077 })}
					}
					wants(t, fmt.Sprint("the state ", i, ", Total ", total, " at ", at), of(receiver.Take(s, x, 6000)), want)
				}
			}
		}
	}
}

// P15.2: one byte that has come in stands otherwise: the first, the last, one in the middle, of the segment and of a row.
func TestTakeOfOtherBytes(t *testing.T) {
	for i, s := range states() {
		has := come(s)
		for _, r := range []struct{ at, n int }{{10, 20}, {0, 100}, {5, 30}, {15, 5}, {20, 90}, {100, 100}, {200, 100}, {240, 100}, {301, 40}, {330, 100}, {350, 100}, {10, 1}, {29, 1}, {30, 1}, {249, 1}, {250, 1}} {
			for j := range r.n {
				for _, serial := range []uint32{0, 12} {
					x := data(s, r.at, r.n, serial)
					x.Data[j] ^= 1 << (j % 8)
					a := of(receiver.Take(s, x, 6000))
					what := fmt.Sprint("the state ", i, ", ", r, ", another byte at ", r.at+j)
					switch {
					case s.State == 4:
						wants(t, what, a, answer{s: changed(s, func(s *api.Taking) { s.Due = 6077 })})
					case has[r.at+j]:
						wants(t, what, a, ends(s, 6000))
					case a.s.State != 1 || a.s.Bytes[r.at+j] != x.Data[j] || len(a.sent) != int(min(serial, 1)):
						t.Errorf("%s: %+v", what, a)
					}
				}
			}
		}
	}
}

// P15.2: what stands where nothing has come in is not held against what comes; what comes stands there then.
func TestTakeOverWhatHasNotCome(t *testing.T) {
	s := changed(unlike(), func(s *api.Taking) {
		for i, got := range come(*s) {
			if !got {
				s.Bytes[i] = 0xff - fill(450)[i]
			}
		}
	})
	if receiver.Check(s) != api.OK {
		t.Fatal("bytes that have not come in count")
	}
	want := answer{s: deep(s)}
	want.s.Due, want.s.Got = 6077, rows(5, 25, 100, 150, 301, 40)
	copy(want.s.Bytes[5:10], fill(450)[5:])
	wants(t, "data", of(receiver.Take(s, data(s, 5, 10, 0), 6000)), want)
	zero := data(s, 30, 2, 0)
	zero.Data = []byte{0, 0}
	want = answer{s: deep(s)}
	want.s.Due, want.s.Got = 6077, rows(10, 22, 100, 150, 301, 40)
	want.s.Bytes[30], want.s.Bytes[31] = 0, 0
	wants(t, "noughts", of(receiver.Take(s, zero, 6000)), want)
}

// P15.2: noughts that have come in are bytes like others.
func TestTakeOfNoughts(t *testing.T) {
	x := data(example(), 0, 3, 0)
	x.Total, x.Data = 5, []byte{0, 0, 0}
	a := of(receiver.New(x, 0, 10))
	if text(a.s.Got) != text(rows(0, 3)) || a.s.State != 1 {
		t.Errorf("%+v", a)
	}
	x.Data, x.Offset = []byte{0, 0, 0}, 2
	b := of(receiver.Take(a.s, x, 1))
	if text(b.s.Got) != text(rows(0, 5)) || b.s.State != 2 || len(b.sent) != 0 {
		t.Errorf("%+v", b)
	}
	x.Data[0] = 1
	wants(t, "another byte", of(receiver.Take(a.s, x, 1)), ends(a.s, 1))
	wants(t, "another byte of all", of(receiver.Take(b.s, x, 1)), ends(b.s, 1))
}

// P15.2: which rows there are behind data that laps over none, touches some, or laps over some.
func TestTakeJoinsRows(t *testing.T) {
	for _, r := range []struct {
		got   []int
		at, n int
		want  []int
	}{
		{nil, 0, 1, []int{0, 1}}, {nil, 50, 7, []int{50, 7}}, {nil, 350, 100, []int{350, 100}},
		{[]int{10, 20, 60, 5}, 5, 4, []int{5, 4, 10, 20, 60, 5}}, {[]int{10, 20, 60, 5}, 5, 5, []int{5, 25, 60, 5}}, {[]int{10, 20, 60, 5}, 5, 6, []int{5, 25, 60, 5}}, // behind it: apart, touching, lapping
		{[]int{10, 20, 60, 5}, 31, 4, []int{10, 20, 31, 4, 60, 5}}, {[]int{10, 20, 60, 5}, 30, 4, []int{10, 24, 60, 5}}, {[]int{10, 20, 60, 5}, 29, 4, []int{10, 23, 60, 5}}, // ahead of it
		{[]int{10, 20, 60, 5}, 30, 30, []int{10, 55}}, {[]int{10, 20, 60, 5}, 30, 29, []int{10, 49, 60, 5}}, {[]int{10, 20, 60, 5}, 31, 29, []int{10, 20, 31, 34}}, {[]int{10, 20, 60, 5}, 20, 42, []int{10, 55}}, {[]int{10, 20, 60, 5}, 31, 28, []int{10, 20, 31, 28, 60, 5}}, // between
		{[]int{10, 20, 60, 5}, 65, 1, []int{10, 20, 60, 6}}, {[]int{10, 20, 60, 5}, 66, 1, []int{10, 20, 60, 5, 66, 1}}, {[]int{10, 20, 60, 5}, 64, 100, []int{10, 20, 60, 104}}, {[]int{10, 20, 60, 5}, 449, 1, []int{10, 20, 60, 5, 449, 1}}, // behind all
		{[]int{10, 20, 60, 5}, 10, 20, []int{10, 20, 60, 5}}, {[]int{10, 20, 60, 5}, 15, 5, []int{10, 20, 60, 5}}, {[]int{10, 20, 60, 5}, 10, 1, []int{10, 20, 60, 5}}, {[]int{10, 20, 60, 5}, 29, 1, []int{10, 20, 60, 5}}, {[]int{10, 20, 60, 5}, 64, 1, []int{10, 20, 60, 5}}, // nothing new
		{[]int{10, 20, 60, 5}, 0, 100, []int{0, 100}}, {[]int{10, 20, 60, 5}, 9, 57, []int{9, 57}}, {[]int{10, 20, 60, 5}, 5, 30, []int{5, 30, 60, 5}}, {[]int{10, 20, 60, 5}, 55, 20, []int{10, 20, 55, 20}}, // about one, about both
		{[]int{1, 1, 3, 1, 5, 1, 7, 1, 9, 1}, 3, 5, []int{1, 1, 3, 5, 9, 1}}, {[]int{1, 1, 3, 1, 5, 1, 7, 1, 9, 1}, 2, 7, []int{1, 9}}, {[]int{1, 1, 3, 1, 5, 1, 7, 1, 9, 1}, 4, 1, []int{1, 1, 3, 3, 7, 1, 9, 1}}, {[]int{1, 1, 3, 1, 5, 1, 7, 1, 9, 1}, 0, 12, []int{0, 12}}, {[]int{1, 1, 3, 1, 5, 1, 7, 1, 9, 1}, 4, 40, []int{1, 1, 3, 41}}, {[]int{1, 1, 3, 1, 5, 1, 7, 1, 9, 1}, 0, 6, []int{0, 6, 7, 1, 9, 1}}, // several at once
	} {
		s := with(unlike(), rows(r.got...)...)
		want := answer{s: with(s, rows(r.want...)...)}
		want.s.Due = 6077
		wants(t, fmt.Sprintf("%+v", r), of(receiver.Take(s, data(s, r.at, r.n, 0), 6000)), want)
		want.s.Serial, want.sent = 334, []api.Segment{report(s, 334, 12, rows(r.want...)...)}
		wants(t, fmt.Sprintf("%+v with Check", r), of(receiver.Take(s, data(s, r.at, r.n, 12), 6000)), want)
	}
}

// P15.2: data with Check and without, with which nothing is missing any more, and with which a byte is.
func TestTakeOfTheLastBytes(t *testing.T) {
	for _, r := range []struct {
		got   []int
		at, n int
		state int
	}{
		{[]int{0, 449}, 449, 1, 2}, {[]int{1, 449}, 0, 1, 2}, {[]int{0, 200, 201, 249}, 200, 1, 2}, {[]int{0, 200, 300, 150}, 200, 100, 2}, {[]int{0, 200, 290, 160}, 195, 100, 2}, {[]int{0, 350}, 350, 100, 2},
		{[]int{0, 448}, 449, 1, 1}, {[]int{0, 448}, 448, 1, 1}, {[]int{2, 448}, 0, 1, 1}, {[]int{2, 448}, 1, 1, 1}, {[]int{0, 200, 301, 149}, 200, 100, 1}, {[]int{0, 200, 301, 149}, 201, 100, 1}, {[]int{0, 100, 101, 100, 202, 248}, 100, 1, 1},
	} {
		for _, serial := range []uint32{0, 1, math.MaxUint32} {
			s := with(unlike(), rows(r.got...)...)
			a := of(receiver.Take(s, data(s, r.at, r.n, serial), 6000))
			wants(t, fmt.Sprintf("%+v, Serial %d", r, serial), a, toldTake(s, data(s, r.at, r.n, serial), 6000))
			if a.s.State != r.state || len(a.sent) != int(min(serial, 1)) {
				t.Errorf("%+v, Serial %d: State %d, sent %+v", r, serial, a.s.State, a.sent)
			}
		}
	}
}

// P15.2: a report has the first 20 rows of Got, the session all of them.
func TestTakeReportsOfManyRows(t *testing.T) {
	for n := 17; n <= 40; n++ {
		for _, wide := range []int{1, 3, 7} {
			all := spread(n, wide)
			for _, i := range []int{0, n / 2, n - 1} {
				had := append(append([]api.Claim{}, all[:i]...), all[i+1:]...)
				s := with(unlike(), had...)
				want := answer{s: with(s, all...)}
				want.s.Due, want.s.Serial = 6077, 334
				want.sent = []api.Segment{report(s, 334, 12, all[:min(n, 20)]...)}
				a := of(receiver.Take(s, data(s, all[i].At, wide, 12), 6000))
				wants(t, fmt.Sprint(n, " rows, the new one at ", i), a, want)
				right(t, a)
			}
		}
	}
}

// P15.2: the Serial is one more for each report, 1 behind 2^32 - 1, and stays without one; Checks is the checkpoint's Serial.
func TestTakeSerials(t *testing.T) {
	for _, r := range []struct{ was, is uint32 }{{0, 1}, {1, 2}, {333, 334}, {1<<31 - 1, 1 << 31}, {math.MaxUint32 - 2, math.MaxUint32 - 1}, {math.MaxUint32 - 1, math.MaxUint32}, {math.MaxUint32, 1}} {
		for _, checks := range []uint32{1, 2, 333, math.MaxUint32 - 1, math.MaxUint32} {
			for _, state := range []int{1, 2} {
				s := in(unlike(), state)
				s.Serial = r.was
				a := of(receiver.Take(s, data(s, 10, 20, checks), 6000))
				right(t, a)
				if a.s.Serial != r.is || len(a.sent) != 1 || text(a.sent[0]) != text(report(s, r.is, checks, s.Got...)) {
					t.Errorf("behind %d, Checks %d: %+v", r.was, checks, a)
				}
				if a = of(receiver.Take(s, data(s, 10, 20, 0), 6000)); a.s.Serial != r.was || len(a.sent) != 0 {
					t.Errorf("behind %d, without Check: %+v", r.was, a)
				}
			}
		}
	}
}

// P15.2: each time that a checkpoint comes it is reported, also the same one.
func TestTakeReportsAgain(t *testing.T) {
	a := of(receiver.New(data(example(), 0, 100, 8), 0, 100))
	for i := range 50 {
		a = of(receiver.Take(a.s, data(a.s, 0, 100, 8), i))
		wants(t, "again", a, answer{s: changed(a.s, func(s *api.Taking) { s.Serial, s.Due = uint32(i)+2, i+100 }), sent: []api.Segment{report(a.s, uint32(i)+2, 8, rows(0, 100)...)}})
	}
}

// P15.2: moments at the edges, for each Kind, at each State; Due goes by Life, back as well as on.
func TestTakeMoments(t *testing.T) {
	for _, s := range states() {
		for _, x := range forwards(s) {
			for _, now := range []int{0, 1, 4999, 5000, 5001, maxTick - 1, maxTick} {
				for _, life := range []int{1, 77, 65536} {
					s.Life = life
					a := of(receiver.Take(s, x, now))
					wants(t, fmt.Sprint("Kind ", x.Kind, " at ", now), a, toldTake(s, x, now))
					if a.e != api.OK || a.s.Due != now+life {
						t.Errorf("Kind %d at %d: Due %d, error %d", x.Kind, now, a.s.Due, a.e)
					}
				}
			}
			for _, now := range wrongMoments() {
				refuses(t, fmt.Sprint("Kind ", x.Kind, " at ", now), of(receiver.Take(s, x, now)), api.ErrArg)
			}
		}
	}
}

// P15.2, R2: ErrArg for what goes back, is of another Source or Session, or may not be, at each State.
func TestTakeRefuses(t *testing.T) {
	others := map[string]func(x *api.Segment){
		"Source 0": func(x *api.Segment) { x.Source = 0 }, "Source 1": func(x *api.Segment) { x.Source = 1 }, "Source 2": func(x *api.Segment) { x.Source = 2 }, "Source 4": func(x *api.Segment) { x.Source = 4 }, "Source 7": func(x *api.Segment) { x.Source = 7 },
		"Session 0": func(x *api.Segment) { x.Session = 0 }, "one Session less": func(x *api.Segment) { x.Session-- }, "one Session more": func(x *api.Segment) { x.Session++ }, "another Session": func(x *api.Segment) { x.Session = 70000 - 65536 },
		"Checks": func(x *api.Segment) { x.Checks = 1 }, "Lower": func(x *api.Segment) { x.Lower = 1 }, "Upper": func(x *api.Segment) { x.Upper = 450 }, "Claims": func(x *api.Segment) { x.Claims = rows(0, 1) }, "Kind 0": func(x *api.Segment) { x.Kind = 0 }, "Kind 8": func(x *api.Segment) { x.Kind = 8 }, "Reason 256": func(x *api.Segment) { x.Reason = 256 }, "Reason -1": func(x *api.Segment) { x.Reason = -1 },
	}
	for _, s := range states() {
		for _, x := range backs(s) {
			if segment.Check(x) != api.OK {
				t.Fatalf("%+v", x)
			}
			refuses(t, "what goes back", of(receiver.Take(s, x, 6000)), api.ErrArg)
			refuses(t, "what goes back, at -1", of(receiver.Take(s, x, -1)), api.ErrArg)
		}
		for _, x := range forwards(s) {
			for what, f := range others {
				y := deepSegment(x)
				f(&y)
				refuses(t, fmt.Sprint("Kind ", x.Kind, ", ", what), of(receiver.Take(s, y, 6000)), api.ErrArg)
			}
		}
		for what, x := range wrongData() {
			if x.Source == 1 && x.Session == 5 {
				x.Source, x.Session = 3, 70000
			}
			refuses(t, what, of(receiver.Take(s, x, 6000)), api.ErrArg)
		}
		refuses(t, "nothing", of(receiver.Take(s, api.Segment{}, 6000)), api.ErrArg)
	}
}

// P15.2, R2: ErrTaking ahead of all else, be the segment or the moment wrong, too.
func TestTakeOfWhatMayNotBe(t *testing.T) {
	for what, s := range wrongSessions() {
		u := unlike()
		for _, x := range []api.Segment{data(u, 0, 5, 1), data(u, 0, 5, 0), ack(s, 1), cancel(s, 1), bare(s, 7), bare(s, 5), stop(s, 1), {}, {Kind: 9}} {
			for _, now := range []int{0, 6000, -1, maxTick + 1} {
				refuses(t, what, of(receiver.Take(s, x, now)), api.ErrTaking)
			}
		}
	}
}

// P15.2: many sessions and segments, held against what is told once more.
func TestTakeHeld(t *testing.T) {
	d := chance(2)
	ended, done := 0, 0
	for range 30000 {
		s, now := d.taking(), d.IntN(maxTick+1)
		x := d.there(s)
		a := of(receiver.Take(s, x, now))
		wants(t, fmt.Sprintf("%+v at %d", x, now), a, toldTake(s, x, now))
		right(t, a)
		if s.State != 4 && a.s.State == 4 && x.Kind == 1 {
			ended++
		}
		if s.State == 1 && a.s.State == 2 {
			done++
		}
	}
	if ended < 1000 || done < 500 {
		t.Errorf("%d ended, %d done", ended, done)
	}
}

// P15.2: each segment of a short block, of each session that there may be of it.
func TestTakeOfEachShortSession(t *testing.T) {
	const total = 7
	for bits := range 1 << total {
		has := make([]bool, total)
		for i := range has {
			has[i] = bits>>i&1 == 1
		}
		s := with(api.Taking{Source: 2, Session: 9, Total: total, State: 1, Life: 3, Serial: 4}, runs(has, true)...)
		if bits == 1<<total-1 {
			s.State = 2
		}
		for at := range total {
			for n := 1; n <= total-at; n++ {
				for _, serial := range []uint32{0, 6} {
					x := data(s, at, n, serial)
					wants(t, fmt.Sprint(s.Got, at, n), of(receiver.Take(s, x, 1)), toldTake(s, x, 1))
				}
			}
		}
		if a := of(receiver.Tick(s, 0)); text(a) != text(toldTick(s, 0)) || receiver.Missing(s) != toldMissing(s) {
			t.Errorf("Tick of %+v: %+v, Missing %d", s, a, receiver.Missing(s))
		}
	}
}
