package sender_test

import (
	"fmt"
	"math"
	"slices"
	"testing"

	"heliograph/api"
	"heliograph/sender"
)

// P14.4: the numbers of package api are those that the chapter and its limits say.
func TestNumbers(t *testing.T) {
	if api.SessionOpen != 1 || api.SessionDone != 2 || api.SessionCancel != 3 || api.SessionOver != 4 || api.ReasonUser != 0 || api.ReasonTries != 1 || api.ReasonStop != 2 {
		t.Error("a State or a Reason has another number than the chapter says")
	}
	if api.ErrSending != 240 || api.ErrArg != 2 || api.MaxNodes != 6 || api.MaxBlock != 512 || api.MaxData != 100 || api.MaxTick != maxTick {
		t.Error("a number of package api is another one than the document says")
	}
}

// rightSessions are sessions that may be, at each edge.
func rightSessions() map[string]api.Sending {
	out := map[string]api.Sending{"unlike": unlike()}
	add := func(what string, f func(s *api.Sending)) {
		out[what] = changed(unlike(), f)
	}
	for n := 1; n <= 4; n++ {
		add(fmt.Sprint("State ", n), func(s *api.Sending) { s.State = n })
	}
	for _, n := range []int{0, 1, maxTick, maxTick + 1, maxDue - 1, maxDue} {
		add(fmt.Sprint("Due ", n), func(s *api.Sending) { s.Due = n })
	}
	for _, n := range []int{0, 1, 8, 9} {
		add(fmt.Sprint("Asked ", n), func(s *api.Sending) { s.Asked = n })
	}
	for _, n := range []int{0, 1, 2, 254, 255} {
		add(fmt.Sprint("Reason ", n), func(s *api.Sending) { s.Reason = n })
	}
	for _, n := range []int{0, 1, 31, 32} {
		add(fmt.Sprint(n, " Seen"), func(s *api.Sending) { s.Seen = serials(math.MaxUint32-uint32(n)+1, n) })
	}
	add("Seen twice, falling", func(s *api.Sending) { s.Seen = []uint32{9, 1, 9, math.MaxUint32, 2} })
	for _, l := range [][]int{nil, {0, 450}, {0, 1}, {449, 1}, {0, 449}, {1, 449}, {1, 448}, {0, 1, 2, 1}, {0, 1, 449, 1}, {10, 5, 16, 5}, {10, 5, 16, 434}, {0, 100, 101, 100, 202, 248}} {
		add(fmt.Sprint("Got ", l), func(s *api.Sending) { s.Got = rows(l...) })
	}
	add("each second byte", func(s *api.Sending) {
		s.Got = nil
		for i := 0; i < 450; i += 2 {
			s.Got = append(s.Got, api.Claim{At: i, N: 1})
		}
	})
	for _, l := range [][2]int{{0, 1}, {0, 100}, {350, 100}, {449, 1}, {17, 30}} {
		add(fmt.Sprint("Last ", l), func(s *api.Sending) { s.Last = data(*s, l[0], l[1], math.MaxUint32) })
	}
	for _, n := range []int{1, 2, 100, 101, 511, 512} {
		for _, f := range []func(x *api.Start){func(x *api.Start) {}, func(x *api.Start) { x.Source, x.Wait, x.Tries = 6, 4096, 16 }, func(x *api.Start) { x.Session, x.Wait, x.Tries = 1, 1, 1 }, func(x *api.Start) { x.Session = math.MaxUint32 }} {
			s := api.Sending{Start: starts(n), State: 1}
			f(&s.Start)
			s.Last = data(s, n-1, 1, 1)
			s.Asked = s.Tries
			out[fmt.Sprintf("begun %+v", s.Start)] = s
		}
	}
	return out
}

// P14.4: Check of sessions that may be, and of each that may not be for one reason.
func TestCheck(t *testing.T) {
	for what, s := range rightSessions() {
		if e := sender.Check(s); e != api.OK || !may(s) {
			t.Errorf("%s: error %d", what, e)
		}
	}
	for what, s := range wrongSessions() {
		if e := sender.Check(s); e != api.ErrSending || may(s) {
			t.Errorf("%s: error %d, want ErrSending", what, e)
		}
	}
}

// P14.4: two Tries less than what was asked, a shorter block: what is right hangs on the Start.
func TestCheckGoesByTheStart(t *testing.T) {
	s := changed(unlike(), func(s *api.Sending) { s.Tries = 3 })
	if sender.Check(s) != api.ErrSending {
		t.Error("Asked 4 of 3")
	}
	s.Tries = 4
	if sender.Check(s) != api.OK {
		t.Error("Asked 4 of 4")
	}
	for _, f := range []func(s *api.Sending){
		func(s *api.Sending) { s.Source = 4 }, func(s *api.Sending) { s.Session++ }, func(s *api.Sending) { s.Block = s.Block[:449] },
		func(s *api.Sending) { s.Block = append(s.Block, 1) }, func(s *api.Sending) { s.Block[252]++ }, func(s *api.Sending) { s.Block[296]++ },
	} {
		if sender.Check(changed(unlike(), f)) != api.ErrSending {
			t.Errorf("%+v", changed(unlike(), f).Start)
		}
	}
	for _, i := range []int{0, 251, 297, 449} {
		if sender.Check(changed(unlike(), func(s *api.Sending) { s.Block[i]++ })) != api.OK {
			t.Errorf("another byte at %d, which Last does not have", i)
		}
	}
}

// P14.4: Check of many sessions with one thing changed by chance, held against what is told once more.
func TestCheckHeld(t *testing.T) {
	d := chance(2)
	wrong := 0
	some := func() int { return []int{-1, 0, 1, 2, 5, 6, 100, 450, 512, 513, math.MaxInt, math.MinInt}[d.IntN(12)] }
	for range 20000 {
		s := d.sending()
		switch d.IntN(9) {
		case 0:
			s.Got = append(s.Got, api.Claim{At: some(), N: some()})
		case 1:
			if len(s.Got) > 0 {
				s.Got[d.IntN(len(s.Got))].N += 1 + d.IntN(3)
			}
		case 2:
			if len(s.Got) > 0 {
				s.Got[d.IntN(len(s.Got))].At = some()
			}
		case 3:
			s.Last.Offset += d.IntN(3) - 1
		case 4:
			s.Block = s.Block[:d.IntN(len(s.Block)+1)]
		case 5:
			s.Last.Data[d.IntN(len(s.Last.Data))] ^= byte(d.IntN(2))
		case 6:
			s.Asked, s.Due = some(), some()
		case 7:
			s.State, s.Reason = some(), some()
		case 8:
			s.Source, s.Tries = 1+d.IntN(7), some()
		}
		want := api.OK
		if !may(s) {
			want = api.ErrSending
			wrong++
		}
		if e := sender.Check(s); e != want {
			t.Fatalf("Check of %+v: %d, want %d", s, e, want)
		}
	}
	if wrong < 5000 || wrong > 18000 {
		t.Errorf("%d of 20000 may not be", wrong)
	}
}

// P14.4: the gaps, each as long as can be, rising; whatever the State is.
func TestGaps(t *testing.T) {
	for _, r := range []struct{ got, want []int }{
		{nil, []int{0, 250}}, {[]int{0, 250}, nil}, {[]int{0, 100, 200, 50}, []int{100, 100}}, {[]int{0, 1}, []int{1, 249}}, {[]int{249, 1}, []int{0, 249}},
		{[]int{1, 248}, []int{0, 1, 249, 1}}, {[]int{0, 100, 101, 149}, []int{100, 1}}, {[]int{100, 100}, []int{0, 100, 200, 50}}, {[]int{10, 5, 16, 5, 30, 1}, []int{0, 10, 15, 1, 21, 9, 31, 219}},
	} {
		for state := 1; state <= 4; state++ {
			s := begun(t, 250)
			s.State, s.Got = state, rows(r.got...)
			if got := sender.Gaps(s); text(got) != text(rows(r.want...)) {
				t.Errorf("Gaps beside %v, State %d: %v, want %v", r.got, state, got, r.want)
			}
		}
	}
}

// P14.4: nothing of a session that may not be, be its rows right or not.
func TestGapsOfWhatMayNotBe(t *testing.T) {
	for what, s := range wrongSessions() {
		if got := sender.Gaps(s); len(got) != 0 {
			t.Errorf("%s: Gaps %v", what, got)
		}
	}
}

// P14.4: gaps and claims have each byte once, in whatever session.
func TestGapsHeld(t *testing.T) {
	d := chance(3)
	for range 3000 {
		s := d.sending()
		if got, want := sender.Gaps(s), runs(claimed(s), false); !slices.Equal(got, want) {
			t.Fatalf("Gaps beside %v of %d bytes: %v, want %v", s.Got, len(s.Block), got, want)
		}
	}
	for what, s := range rightSessions() {
		if got, want := sender.Gaps(s), runs(claimed(s), false); !slices.Equal(got, want) {
			t.Errorf("%s: Gaps %v, want %v", what, got, want)
		}
	}
}

// others are sessions that are unlike in one field each.
func others() map[string]func(s *api.Sending) {
	return map[string]func(s *api.Sending){
		"Source": func(s *api.Sending) { s.Source++ }, "Session": func(s *api.Sending) { s.Session++ }, "Wait": func(s *api.Sending) { s.Wait++ }, "Tries": func(s *api.Sending) { s.Tries++ },
		"a byte of Block": func(s *api.Sending) { s.Block[449]++ }, "the first byte": func(s *api.Sending) { s.Block[0]++ }, "a shorter Block": func(s *api.Sending) { s.Block = s.Block[:449] }, "a longer Block": func(s *api.Sending) { s.Block = append(s.Block, 0) }, "no Block": func(s *api.Sending) { s.Block = nil },
		"State": func(s *api.Sending) { s.State++ }, "Due": func(s *api.Sending) { s.Due++ }, "Asked": func(s *api.Sending) { s.Asked++ }, "Reason": func(s *api.Sending) { s.Reason++ },
		"At of Got": func(s *api.Sending) { s.Got[2].At++ }, "N of Got": func(s *api.Sending) { s.Got[0].N++ }, "less Got": func(s *api.Sending) { s.Got = s.Got[:2] }, "more Got": func(s *api.Sending) { s.Got = append(s.Got, api.Claim{}) }, "no Got": func(s *api.Sending) { s.Got = nil }, "Got in another order": func(s *api.Sending) { s.Got[0], s.Got[1] = s.Got[1], s.Got[0] },
		"Seen": func(s *api.Sending) { s.Seen[2]++ }, "less Seen": func(s *api.Sending) { s.Seen = s.Seen[:2] }, "more Seen": func(s *api.Sending) { s.Seen = append(s.Seen, 0) }, "no Seen": func(s *api.Sending) { s.Seen = nil }, "Seen in another order": func(s *api.Sending) { s.Seen[0], s.Seen[1] = s.Seen[1], s.Seen[0] },
		"Last's Kind": func(s *api.Sending) { s.Last.Kind++ }, "Last's Source": func(s *api.Sending) { s.Last.Source++ }, "Last's Session": func(s *api.Sending) { s.Last.Session++ }, "Last's Serial": func(s *api.Sending) { s.Last.Serial++ }, "Last's Checks": func(s *api.Sending) { s.Last.Checks++ },
		"Last's Offset": func(s *api.Sending) { s.Last.Offset++ }, "Last's Total": func(s *api.Sending) { s.Last.Total++ }, "Last's Lower": func(s *api.Sending) { s.Last.Lower++ }, "Last's Upper": func(s *api.Sending) { s.Last.Upper++ }, "Last's Reason": func(s *api.Sending) { s.Last.Reason++ }, "Last's Check": func(s *api.Sending) { s.Last.Check = false },
		"Last's Data": func(s *api.Sending) { s.Last.Data[44]++ }, "Last's shorter Data": func(s *api.Sending) { s.Last.Data = s.Last.Data[:44] }, "Last's Claims": func(s *api.Sending) { s.Last.Claims = rows(0, 0) },
	}
}

// P14.4: Same of two that are the same, and with one field changed, both ways; whether they may be is not asked.
func TestSame(t *testing.T) {
	for what, f := range others() {
		for _, a := range []api.Sending{unlike(), changed(unlike(), func(s *api.Sending) { s.State = 9 })} {
			b := changed(a, f)
			if sender.Same(a, b) || sender.Same(b, a) {
				t.Errorf("%s: the same", what)
			}
			if !sender.Same(a, deep(a)) || !sender.Same(b, deep(b)) {
				t.Errorf("%s: not the same as itself", what)
			}
		}
	}
	for what, s := range wrongSessions() {
		if !sender.Same(s, deep(s)) || sender.Same(s, unlike()) {
			t.Errorf("%s", what)
		}
	}
	for what, s := range rightSessions() {
		if !sender.Same(s, deep(s)) {
			t.Errorf("%s", what)
		}
	}
}

// P14.4, R3: nil and empty lists are one.
func TestSameOfNilAndEmpty(t *testing.T) {
	empty := api.Sending{Start: api.Start{Block: []byte{}}, Got: []api.Claim{}, Seen: []uint32{}, Last: api.Segment{Data: []byte{}, Claims: []api.Claim{}}}
	if !sender.Same(empty, api.Sending{}) || !sender.Same(api.Sending{}, empty) {
		t.Error("nil and empty are not one")
	}
}
