package sender_test

import (
	"fmt"
	"math"
	"slices"
	"testing"

	"heliograph/api"
	"heliograph/segment"
	"heliograph/sender"
)

// P14.2: the chapter's examples, at the moment 0, each field of them.
func TestTakeOfTheExample(t *testing.T) {
	b := fill(250)
	again := api.Segment{Kind: 1, Source: 1, Session: 5, Offset: 100, Total: 250, Data: b[100:200], Check: true, Serial: 2}
	first := api.Segment{Kind: 2, Source: 1, Session: 5, Serial: 1, Checks: 1, Lower: 0, Upper: 250, Claims: rows(0, 100, 200, 50)}
	a := of(sender.Take(begun(t, 250), first, 0))
	want := answer{s: api.Sending{Start: starts(250), State: 1, Got: rows(0, 100, 200, 50), Last: again, Due: 10, Seen: []uint32{1}}}
	want.sent = []api.Segment{{Kind: 3, Source: 1, Session: 5, Serial: 1}, again}
	wants(t, "report 1", a, want)
	second := api.Segment{Kind: 2, Source: 1, Session: 5, Serial: 2, Checks: 2, Lower: 0, Upper: 250, Claims: rows(0, 250)}
	want.s.State, want.s.Got, want.s.Seen = 2, rows(0, 250), []uint32{1, 2}
	want.sent = []api.Segment{{Kind: 3, Source: 1, Session: 5, Serial: 2}}
	wants(t, "report 2", of(sender.Take(a.s, second, 0)), want)
	second.Session = 6
	refuses(t, "a report of another session", of(sender.Take(a.s, second, 0)), api.ErrArg)
}

// P14.2: a report that is new: an open session goes by it, of the others nothing changes; all answer it.
func TestTakeOfAReportAtEachState(t *testing.T) {
	for state := 1; state <= 4; state++ {
		s := in(unlike(), state)
		want := answer{s: deep(s), sent: []api.Segment{ack(s, 99)}}
		if state == 1 {
			want.sent = append(want.sent, data(s, 250, 100, 0), data(s, 350, 100, 334))
			want.s.Got, want.s.Seen = rows(0, 250), []uint32{11, 500, 12, 99}
			want.s.Last, want.s.Due, want.s.Asked = data(s, 350, 100, 334), 6077, 0
		}
		wants(t, fmt.Sprint("State ", state), of(sender.Take(s, report(s, 99, 333, rows(0, 250)...), 6000)), want)
		all := answer{s: deep(s), sent: []api.Segment{ack(s, 99)}}
		if state == 1 {
			all.s.State, all.s.Got, all.s.Seen = 2, rows(0, 450), []uint32{11, 500, 12, 99}
		}
		wants(t, fmt.Sprint("all, State ", state), of(sender.Take(s, report(s, 99, 333, rows(0, 450)...), 6000)), all)
	}
}

// P14.2: SegCancelAck ends a session that is given up, and does nothing else; its Reason stays.
func TestTakeOfACancelAckAtEachState(t *testing.T) {
	for state := 1; state <= 4; state++ {
		s := in(unlike(), state)
		want := answer{s: deep(s)}
		if state == 3 {
			want.s.State = 4
		}
		wants(t, fmt.Sprint("State ", state), of(sender.Take(s, bare(s, 5), 6000)), want)
	}
}

// P14.2: SegStop is always answered; the session's Reason is ReasonStop then, whatever Reason it came with.
func TestTakeOfAStopAtEachState(t *testing.T) {
	for state := 1; state <= 4; state++ {
		for _, reason := range []int{0, 1, 2, 3, 5, 255} {
			s := in(unlike(), state)
			want := answer{s: deep(s), sent: []api.Segment{bare(s, 7)}}
			if state == 1 || state == 3 {
				want.s.State, want.s.Reason = 4, 2
			}
			wants(t, fmt.Sprint("State ", state, ", Reason ", reason), of(sender.Take(s, stop(s, reason), 6000)), want)
		}
	}
}

// forwards are segments of the session that go forward.
func forwards(s api.Sending) []api.Segment {
	return []api.Segment{data(s, 0, 1, 0), data(s, len(s.Block)-1, 1, 9), deepSegment(s.Last), ack(s, 11), ack(s, 99), cancel(s, 0), cancel(s, 255), bare(s, 7)}
}

// backs are segments that go back to the session.
func backs(s api.Sending) []api.Segment {
	return []api.Segment{report(s, 99, 333, rows(0, 250)...), report(s, 11, 333), bare(s, 5), stop(s, 3)}
}

// P14.2: ErrArg for what goes forward, of another Source or Session, or may not be, at each State.
func TestTakeRefuses(t *testing.T) {
	for state := 1; state <= 4; state++ {
		s := in(unlike(), state)
		for _, x := range forwards(s) {
			if segment.Check(x) != api.OK {
				t.Fatalf("%+v", x)
			}
			refuses(t, "what goes forward", of(sender.Take(s, x, 6000)), api.ErrArg)
		}
		for _, x := range backs(s) {
			for what, f := range map[string]func(x *api.Segment){
				"Source 0": func(x *api.Segment) { x.Source = 0 }, "Source 1": func(x *api.Segment) { x.Source = 1 }, "Source 2": func(x *api.Segment) { x.Source = 2 }, "Source 4": func(x *api.Segment) { x.Source = 4 }, "Source 7": func(x *api.Segment) { x.Source = 7 },
				"Session 0": func(x *api.Segment) { x.Session = 0 }, "one Session less": func(x *api.Segment) { x.Session-- }, "one Session more": func(x *api.Segment) { x.Session++ }, "another Session": func(x *api.Segment) { x.Session = 70000 - 65536 },
				"Offset": func(x *api.Segment) { x.Offset = 1 }, "Total": func(x *api.Segment) { x.Total = 450 }, "Check": func(x *api.Segment) { x.Check = true }, "Data": func(x *api.Segment) { x.Data = []byte{1} }, "Kind 0": func(x *api.Segment) { x.Kind = 0 }, "Kind 8": func(x *api.Segment) { x.Kind = 8 }, "Reason 256": func(x *api.Segment) { x.Reason = 256 }, "Reason -1": func(x *api.Segment) { x.Reason = -1 },
			} {
				y := deepSegment(x)
				f(&y)
				refuses(t, fmt.Sprint("Kind ", x.Kind, ", ", what), of(sender.Take(s, y, 6000)), api.ErrArg)
			}
		}
		refuses(t, "nothing", of(sender.Take(s, api.Segment{}, 6000)), api.ErrArg)
	}
}

// P14.2: reports that may not be, each for one reason.
func TestTakeRefusesReports(t *testing.T) {
	s := unlike()
	for what, f := range map[string]func(x *api.Segment){
		"Serial 0": func(x *api.Segment) { x.Serial = 0 }, "Checks 0": func(x *api.Segment) { x.Checks = 0 },
		"Lower -1": func(x *api.Segment) { x.Lower = -1 }, "Lower is Upper": func(x *api.Segment) { x.Lower, x.Claims = 512, nil }, "Upper 0": func(x *api.Segment) { x.Upper, x.Claims = 0, nil }, "Upper 513": func(x *api.Segment) { x.Upper = 513 },
		"a claim below Lower": func(x *api.Segment) { x.Lower = 1 }, "a claim that passes Upper": func(x *api.Segment) { x.Upper = 249 }, "an empty claim": func(x *api.Segment) { x.Claims = rows(0, 0) }, "claims that touch": func(x *api.Segment) { x.Claims = rows(0, 2, 2, 1) }, "claims that lap over": func(x *api.Segment) { x.Claims = rows(0, 2, 1, 2) },
		"claims that fall": func(x *api.Segment) { x.Claims = rows(9, 2, 1, 2) }, "a great claim": func(x *api.Segment) { x.Claims = rows(1, math.MaxInt) }, "a great At": func(x *api.Segment) { x.Claims = rows(math.MaxInt, 1) },
		"21 claims": func(x *api.Segment) { x.Claims = spread(21) }, "Reason": func(x *api.Segment) { x.Reason = 1 },
	} {
		x := report(s, 99, 333, rows(0, 250)...)
		f(&x)
		refuses(t, what, of(sender.Take(s, x, 6000)), api.ErrArg)
	}
	x := report(s, 99, 333, spread(20)...)
	if a := of(sender.Take(s, x, 6000)); a.e != api.OK || len(a.s.Got) != 20 {
		t.Errorf("20 claims: %+v", a)
	}
}

// spread are n claims, a gap of two bytes between each two.
func spread(n int) []api.Claim {
	var l []api.Claim
	for i := range n {
		l = append(l, api.Claim{At: 5 * i, N: 3})
	}
	return l
}

// P14.2: moments at the edges, for each Kind.
func TestTakeMoments(t *testing.T) {
	s := unlike()
	for _, x := range backs(s) {
		for _, now := range []int{0, 1, 4999, 5000, 5001, maxTick - 1, maxTick} {
			a := of(sender.Take(s, x, now))
			wants(t, fmt.Sprint("Kind ", x.Kind, " at ", now), a, toldTake(s, x, now))
			if a.e != api.OK || x.Serial == 99 && a.s.Due != now+77 || x.Serial != 99 && a.s.Due != 5000 {
				t.Errorf("Kind %d at %d: Due %d, error %d", x.Kind, now, a.s.Due, a.e)
			}
		}
		for _, now := range wrongMoments() {
			refuses(t, fmt.Sprint("Kind ", x.Kind, " at ", now), of(sender.Take(s, x, now)), api.ErrArg)
		}
	}
}

// P14.2, R2: ErrSending ahead of all else, be the segment or the moment wrong, too.
func TestTakeOfWhatMayNotBe(t *testing.T) {
	for what, s := range wrongSessions() {
		for _, x := range []api.Segment{report(s, 99, s.Last.Serial), bare(s, 5), stop(s, 1), bare(s, 7), {}, {Kind: 9}} {
			for _, now := range []int{0, 6000, -1, maxTick + 1} {
				refuses(t, what, of(sender.Take(s, x, now)), api.ErrSending)
			}
		}
	}
}

// P14.2: a report that was seen is answered, and nothing else, at whatever place it was seen.
func TestTakeOfAReportThatWasSeen(t *testing.T) {
	s := changed(unlike(), func(s *api.Sending) { s.Seen = serials(7, 32) })
	for serial := uint32(7); serial < 39; serial++ {
		for _, claims := range [][]api.Claim{nil, rows(0, 10), rows(0, 450)} {
			x := report(s, serial, 333, claims...)
			wants(t, fmt.Sprint("seen ", serial), of(sender.Take(s, x, 6000)), answer{s: s, sent: []api.Segment{ack(s, serial)}})
		}
	}
	twice := of(sender.Take(begun(t, 250), report(begun(t, 250), 4, 1, rows(0, 100)...), 3))
	wants(t, "twice", of(sender.Take(twice.s, report(twice.s, 4, 2, rows(0, 250)...), 9)), answer{s: twice.s, sent: []api.Segment{ack(twice.s, 4)}})
}

// P14.2: a report of another checkpoint claims, and ends the session if it claims all, but nothing is sent by it.
func TestTakeOfAReportOfAnotherCheckpoint(t *testing.T) {
	s := unlike()
	for _, checks := range []uint32{1, 332, 334, 333 + 65536, math.MaxUint32} {
		want := answer{s: deep(s), sent: []api.Segment{ack(s, 99)}}
		want.s.Seen = []uint32{11, 500, 12, 99}
		want.s.Got = rows(0, 449)
		wants(t, fmt.Sprint("Checks ", checks), of(sender.Take(s, report(s, 99, checks, rows(0, 449)...), 6000)), want)
		want.s.Got = nil
		wants(t, fmt.Sprint("Checks ", checks, ", no claims"), of(sender.Take(s, report(s, 99, checks), 6000)), want)
		want.s.Got, want.s.State = rows(0, 450), 2
		wants(t, fmt.Sprint("Checks ", checks, ", all"), of(sender.Take(s, report(s, 99, checks, rows(0, 450)...), 6000)), want)
	}
}

// P14.2: of a report's claims just the bytes count that the block has.
func TestTakeOfClaimsBehindTheBlock(t *testing.T) {
	for _, r := range []struct {
		claims, got []int
		done        bool
	}{
		{[]int{0, 249}, []int{0, 249}, false}, {[]int{0, 250}, []int{0, 250}, true}, {[]int{0, 251}, []int{0, 250}, true}, {[]int{0, 512}, []int{0, 250}, true}, {[]int{0, 250, 251, 1}, []int{0, 250}, true}, {[]int{0, 250, 300, 100, 500, 12}, []int{0, 250}, true},
		{[]int{249, 1}, []int{249, 1}, false}, {[]int{249, 2}, []int{249, 1}, false}, {[]int{250, 1}, nil, false}, {[]int{251, 9, 400, 112}, nil, false}, {[]int{511, 1}, nil, false}, {[]int{10, 5, 200, 300}, []int{10, 5, 200, 50}, false}, {[]int{1, 511}, []int{1, 249}, false},
		{[]int{0, 249, 250, 1}, []int{0, 249}, false}, {[]int{0, 248, 249, 2}, []int{0, 248, 249, 1}, false},
	} {
		s := begun(t, 250)
		x := report(s, 1, 1, rows(r.claims...)...)
		a := of(sender.Take(s, x, 4))
		if text(a.s.Got) != text(rows(r.got...)) || (a.s.State == 2) != r.done || r.done != (len(a.sent) == 1) {
			t.Errorf("claims %v: Got %v, State %d, %d segments", r.claims, a.s.Got, a.s.State, len(a.sent))
		}
		wants(t, fmt.Sprint("claims ", r.claims), a, toldTake(s, x, 4))
	}
}

// P14.2: what is claimed may become less, and other: what was claimed ahead of it does not count any more.
func TestTakeOfLessClaims(t *testing.T) {
	s := begun(t, 450)
	for i, l := range [][]int{{0, 400}, {0, 100, 200, 50}, {150, 20}, {}, {0, 449}, {1, 449}, {0, 200, 250, 200}, {200, 50}} {
		a := of(sender.Take(s, report(s, uint32(i+1), s.Last.Serial, rows(l...)...), i))
		if a.e != api.OK || a.s.State != 1 || text(a.s.Got) != text(rows(l...)) || a.s.Last.Serial != uint32(i+2) {
			t.Fatalf("claims %v: %+v", l, a)
		}
		var sent []api.Claim
		for _, x := range a.sent[1:] {
			if n := len(sent); n > 0 && sent[n-1].At+sent[n-1].N == x.Offset {
				sent[n-1].N += len(x.Data)
			} else {
				sent = append(sent, api.Claim{At: x.Offset, N: len(x.Data)})
			}
		}
		if !slices.Equal(sent, runs(claimed(a.s), false)) || !slices.Equal(sent, sender.Gaps(a.s)) {
			t.Errorf("claims %v: sent %v", l, sent)
		}
		s = a.s
	}
}

// P14.2: Lower and Upper say nothing of the block by themselves.
func TestTakeOfBounds(t *testing.T) {
	s := begun(t, 250)
	x := report(s, 1, 1, rows(120, 10)...)
	for _, r := range [][2]int{{0, 512}, {0, 130}, {120, 130}, {120, 512}, {100, 200}, {119, 250}} {
		x.Lower, x.Upper = r[0], r[1]
		want := answer{s: deep(s), sent: []api.Segment{ack(s, 1), data(s, 0, 100, 0), data(s, 100, 20, 0), data(s, 130, 100, 0), data(s, 230, 20, 2)}}
		want.s.Got, want.s.Last, want.s.Due, want.s.Seen = rows(120, 10), data(s, 230, 20, 2), 14, []uint32{1}
		wants(t, fmt.Sprint(r), of(sender.Take(s, x, 4)), want)
	}
}

// P14.2: 32 serials are kept, in order; the 33rd has the first one go, which is new then.
func TestTakeKeeps32Serials(t *testing.T) {
	s := begun(t, 250)
	var all []uint32
	for i := range 80 {
		serial := uint32(1000 - 7*i)
		a := of(sender.Take(s, report(s, serial, 77, rows(0, 1+i)...), 3))
		all = append(all, serial)
		if want := all[max(0, len(all)-32):]; a.e != api.OK || !slices.Equal(a.s.Seen, want) || len(a.sent) != 1 {
			t.Fatalf("the report %d: Seen %v, want %v; %d segments, error %d", i, a.s.Seen, want, len(a.sent), a.e)
		}
		s = a.s
	}
	kept := of(sender.Take(s, report(s, all[48], 77, rows(0, 250)...), 3))
	wants(t, "the first that is kept", kept, answer{s: s, sent: []api.Segment{ack(s, all[48])}})
	gone := of(sender.Take(s, report(s, all[47], 77, rows(0, 250)...), 3))
	want := answer{s: deep(s), sent: []api.Segment{ack(s, all[47])}}
	want.s.State, want.s.Got, want.s.Seen = 2, rows(0, 250), append(slices.Clone(all[49:]), all[47])
	wants(t, "the last that is gone", gone, want)
}

// P14.2: the serial behind 2^32 - 1 is 1.
func TestTakeOfTheSerialBehindTheGreatest(t *testing.T) {
	for serial, next := range map[uint32]uint32{1: 2, 2: 3, 255: 256, 65535: 65536, 1<<31 - 1: 1 << 31, math.MaxUint32 - 2: math.MaxUint32 - 1, math.MaxUint32 - 1: math.MaxUint32, math.MaxUint32: 1} {
		s := changed(unlike(), func(s *api.Sending) { s.Last.Serial = serial })
		a := of(sender.Take(s, report(s, 99, serial, rows(0, 420)...), 6000))
		if a.e != api.OK || len(a.sent) != 2 || !segment.Same(a.sent[1], data(s, 420, 30, next)) || !segment.Same(a.s.Last, a.sent[1]) {
			t.Errorf("behind %d: %+v", serial, a)
		}
	}
	s := changed(unlike(), func(s *api.Sending) { s.Last.Serial = math.MaxUint32 })
	a := of(sender.Take(s, report(s, math.MaxUint32, math.MaxUint32), 6000))
	if b := of(sender.Take(a.s, report(s, 1, 1, rows(0, 1)...), 6001)); b.s.Last.Serial != 2 || !slices.Equal(b.s.Seen, []uint32{11, 500, 12, math.MaxUint32, 1}) {
		t.Errorf("%+v", b)
	}
}

// P14.2: gaps of which each is sent in several segments: each gap begins anew, and the last one of all alone has Check.
func TestTakeOfLongGaps(t *testing.T) {
	s := begun(t, 512)
	for _, r := range []struct{ claims, sent []int }{
		{[]int{201, 1}, []int{0, 100, 100, 100, 200, 1, 202, 100, 302, 100, 402, 100, 502, 10}},
		{[]int{150, 30, 400, 2}, []int{0, 100, 100, 50, 180, 100, 280, 100, 380, 20, 402, 100, 502, 10}},
		{[]int{0, 312}, []int{312, 100, 412, 100}}, {[]int{100, 312}, []int{0, 100, 412, 100}}, {[]int{101, 310}, []int{0, 100, 100, 1, 411, 100, 511, 1}},
		{[]int{0, 1, 102, 1, 203, 309}, []int{1, 100, 101, 1, 103, 100}}, {[]int{1, 510}, []int{0, 1, 511, 1}}, {[]int{0, 511}, []int{511, 1}}, {[]int{1, 511}, []int{0, 1}},
		{nil, []int{0, 100, 100, 100, 200, 100, 300, 100, 400, 100, 500, 12}},
	} {
		a := of(sender.Take(s, report(s, 8, 1, rows(r.claims...)...), 20))
		want := answer{s: deep(s), sent: []api.Segment{ack(s, 8)}}
		for _, c := range rows(r.sent...) {
			want.sent = append(want.sent, data(s, c.At, c.N, 0))
		}
		last := &want.sent[len(want.sent)-1]
		last.Check, last.Serial = true, 2
		want.s.Got, want.s.Last, want.s.Due, want.s.Seen = rows(r.claims...), *last, 30, []uint32{8}
		wants(t, fmt.Sprint("claims ", r.claims), a, want)
	}
}

// P14.2: a checkpoint that is new is asked for anew: Asked is 0 again, whatever it was; without one it stays, and Due, too.
func TestTakeHasItAskAnew(t *testing.T) {
	for asked := range 10 {
		s := changed(unlike(), func(s *api.Sending) { s.Asked = asked })
		if a := of(sender.Take(s, report(s, 99, 333), 17)); a.s.Asked != 0 || a.s.Due != 94 {
			t.Errorf("Asked %d, Due %d", a.s.Asked, a.s.Due)
		}
		for _, x := range []api.Segment{report(s, 99, 332), report(s, 12, 333), report(s, 99, 333, rows(0, 512)...), bare(s, 5), stop(s, 0)} {
			if a := of(sender.Take(s, x, 17)); a.e != api.OK || a.s.Asked != asked || a.s.Due != 5000 {
				t.Errorf("%+v: Asked %d, Due %d, error %d", x, a.s.Asked, a.s.Due, a.e)
			}
		}
	}
}

// P14.2: many sessions and segments, held against what is told once more.
func TestTakeHeld(t *testing.T) {
	d := chance(4)
	done, again, other := 0, 0, 0
	for range 12000 {
		s := d.sending()
		x, now := d.back(s), d.IntN(50)
		a := of(sender.Take(s, x, now))
		wants(t, text(x), a, toldTake(s, x, now))
		switch {
		case a.s.State == 2 && s.State == 1:
			done++
		case len(a.sent) > 1:
			again++
		default:
			other++
		}
		if t.Failed() {
			return
		}
	}
	if done < 500 || again < 2000 || other < 2000 {
		t.Errorf("%d done, %d sent again, %d others", done, again, other)
	}
}
