package receiver_test

import (
	"fmt"
	"math"
	"testing"

	"heliograph/api"
	"heliograph/receiver"
)

// rightSessions are sessions that may be, at the edges.
func rightSessions() map[string]api.Taking {
	out := map[string]api.Taking{}
	for i, s := range states() {
		out[fmt.Sprint("the state ", i)] = s
		add := func(what string, f func(s *api.Taking)) {
			out[fmt.Sprint(what, " of ", i)] = changed(s, f)
		}
		for n := 1; n <= 6; n++ {
			add(fmt.Sprint("Source ", n), func(s *api.Taking) { s.Source = n })
		}
		for _, n := range []uint32{1, 2, 1 << 31, math.MaxUint32} {
			add(fmt.Sprint("Session ", n), func(s *api.Taking) { s.Session = n })
		}
		for _, n := range []uint32{0, 1, 1 << 31, math.MaxUint32} {
			add(fmt.Sprint("Serial ", n), func(s *api.Taking) { s.Serial = n })
		}
		for _, n := range []int{1, 2, 65535, 65536} {
			add(fmt.Sprint("Life ", n), func(s *api.Taking) { s.Life = n })
		}
		for _, n := range []int{0, 1, maxTick, maxTick + 1, maxDue - 1, maxDue} {
			add(fmt.Sprint("Due ", n), func(s *api.Taking) { s.Due = n })
		}
		add("other bytes", func(s *api.Taking) { s.Bytes = fill(450) })
		add("no bytes but noughts", func(s *api.Taking) { s.Bytes = make([]byte, 450) })
	}
	for _, l := range [][]int{nil, {0, 1}, {449, 1}, {0, 449}, {1, 449}, {1, 448}, {0, 1, 2, 1}, {0, 1, 449, 1}, {10, 5, 16, 5}, {10, 5, 16, 434}, {0, 100, 101, 349}, {0, 100, 101, 100, 202, 248}} {
		out[fmt.Sprint("Got ", l)] = with(unlike(), rows(l...)...)
		out[fmt.Sprint("over, Got ", l)] = in(with(unlike(), rows(l...)...), 4)
	}
	for _, n := range []int{1, 2, 449, 450, 511, 512} {
		s := unlike()
		s.Total = n
		out[fmt.Sprint("none of ", n)] = with(s)
		out[fmt.Sprint("over, none of ", n)] = in(with(s), 4)
		out[fmt.Sprint("all of ", n)] = in(with(s), 2)
		out[fmt.Sprint("over, all of ", n)] = in(in(with(s), 2), 4)
		var each []api.Claim
		for i := 1; i < n; i += 2 {
			each = append(each, api.Claim{At: i, N: 1})
		}
		out[fmt.Sprint("each second byte of ", n)] = with(s, each...)
	}
	return out
}

// P15.4: Check of sessions that may be, and of each that may not be for one reason.
func TestCheck(t *testing.T) {
	for what, s := range rightSessions() {
		if e := receiver.Check(s); e != api.OK || !may(s) {
			t.Errorf("%s: error %d", what, e)
		}
	}
	for what, s := range wrongSessions() {
		if e := receiver.Check(s); e != api.ErrTaking || may(s) {
			t.Errorf("%s: error %d, want ErrTaking", what, e)
		}
	}
	if api.ErrTaking != 250 {
		t.Error("ErrTaking is not 250")
	}
}

// P15.4: each State beside all bytes, some and none.
func TestCheckOfEachState(t *testing.T) {
	for _, r := range []struct {
		got   []int
		right []int
	}{{[]int{0, 450}, []int{2, 4}}, {nil, []int{1, 4}}, {[]int{0, 449}, []int{1, 4}}, {[]int{1, 449}, []int{1, 4}}, {[]int{0, 225, 226, 224}, []int{1, 4}}} {
		for state := -2; state < 260; state++ {
			s := with(unlike(), rows(r.got...)...)
			s.State = state
			want := api.ErrTaking
			if state == r.right[0] || state == r.right[1] {
				want = api.OK
			}
			if e := receiver.Check(s); e != want {
				t.Errorf("State %d beside %v: error %d, want %d", state, r.got, e, want)
			}
		}
	}
}

// P15.4: Check of many sessions with one thing changed by chance, held against what is told once more.
func TestCheckHeld(t *testing.T) {
	d := chance(4)
	wrong := 0
	some := func() int { return []int{-1, 0, 1, 2, 4, 6, 100, 450, 512, 513, math.MaxInt, math.MinInt}[d.IntN(12)] }
	for range 20000 {
		s := d.taking()
		switch d.IntN(8) {
		case 0:
			s.Got = append(s.Got, api.Claim{At: some(), N: some()})
		case 1:
			if len(s.Got) > 0 {
				s.Got[d.IntN(len(s.Got))].N += d.IntN(5) - 2
			}
		case 2:
			if len(s.Got) > 0 {
				s.Got[d.IntN(len(s.Got))].At = some()
			}
		case 3:
			s.Total += d.IntN(3) - 1
		case 4:
			s.Bytes = s.Bytes[:d.IntN(len(s.Bytes)+1)]
		case 5:
			s.Life, s.Due = some(), some()
		case 6:
			s.State = d.IntN(6)
		case 7:
			s.Source, s.Session = some(), uint32(d.IntN(2))
		}
		want := api.OK
		if !may(s) {
			want = api.ErrTaking
			wrong++
		}
		if e := receiver.Check(s); e != want {
			t.Fatalf("Check of %+v: %d, want %d", s, e, want)
		}
		if n := receiver.Missing(s); n != toldMissing(s) {
			t.Fatalf("Missing of %+v: %d", s, n)
		}
	}
	if wrong < 5000 || wrong > 18000 {
		t.Errorf("%d of 20000 may not be", wrong)
	}
}

// P15.4: Block and Missing of sessions that are whole, that are not, and that are over with all, some and no bytes.
func TestBlockAndMissing(t *testing.T) {
	for _, n := range []int{1, 2, 100, 450, 512} {
		s := unlike()
		s.Total = n
		for _, state := range []int{2, 4} {
			u := in(in(with(s), 2), state)
			if b, e := receiver.Block(u); e != api.OK || text(b) != text(fill(n)) || receiver.Missing(u) != 0 {
				t.Errorf("all of %d, State %d: %v, error %d, Missing %d", n, state, b, e, receiver.Missing(u))
			}
		}
		for _, state := range []int{1, 4} {
			u := in(with(s), state)
			if b, e := receiver.Block(u); e != api.ErrNone || len(b) != 0 || receiver.Missing(u) != n {
				t.Errorf("none of %d, State %d: %v, error %d, Missing %d", n, state, b, e, receiver.Missing(u))
			}
		}
	}
	for _, r := range []struct {
		got     []int
		missing int
	}{{[]int{0, 449}, 1}, {[]int{1, 449}, 1}, {[]int{0, 1}, 449}, {[]int{10, 20, 100, 150, 301, 40}, 240}, {[]int{0, 200, 201, 249}, 1}, {[]int{0, 1, 449, 1}, 448}} {
		for _, state := range []int{1, 4} {
			u := in(with(unlike(), rows(r.got...)...), state)
			u.Bytes = fill(450) // that all bytes stand there does not say that they have come in
			if b, e := receiver.Block(u); e != api.ErrNone || len(b) != 0 || receiver.Missing(u) != r.missing {
				t.Errorf("%v, State %d: %v, error %d, Missing %d", r.got, state, b, e, receiver.Missing(u))
			}
		}
	}
}

// P15.4: the block of a session that was let go is gone; that of one that was done and is over, or cancelled, is there.
func TestBlockOfWhatIsOver(t *testing.T) {
	s := of(receiver.New(data(api.Taking{Source: 1, Session: 5, Total: 60}, 0, 60, 0), 0, 100)).s
	late := of(receiver.Tick(s, 100)).s
	given := of(receiver.Take(s, cancel(s, 0), 1)).s
	for i, u := range []api.Taking{s, late, given, of(receiver.Take(late, cancel(s, 0), 101)).s} {
		if b, e := receiver.Block(u); e != api.OK || text(b) != text(fill(60)) || u.State != []int{2, 4, 2, 4}[i] {
			t.Errorf("%d: %v, error %d, State %d", i, b, e, u.State)
		}
	}
	x := data(s, 59, 1, 0)
	x.Data[0]++
	gone := of(receiver.Take(s, x, 1)).s
	if b, e := receiver.Block(gone); e != api.ErrNone || len(b) != 0 || receiver.Missing(gone) != 60 {
		t.Errorf("let go: %v, error %d", b, e)
	}
}

// P15.4: of a session that may not be Block is ErrTaking, whatever has come in, and nothing is missing.
func TestBlockAndMissingOfWhatMayNotBe(t *testing.T) {
	for what, s := range wrongSessions() {
		if b, e := receiver.Block(s); e != api.ErrTaking || len(b) != 0 {
			t.Errorf("%s: Block %v, error %d", what, b, e)
		}
		if n := receiver.Missing(s); n != 0 {
			t.Errorf("%s: Missing %d", what, n)
		}
	}
}

// P15.4: Block and Missing, held against what is told once more.
func TestBlockAndMissingHeld(t *testing.T) {
	d := chance(5)
	sessions := []api.Taking{}
	for _, s := range rightSessions() {
		sessions = append(sessions, s)
	}
	for range 5000 {
		sessions = append(sessions, d.taking())
	}
	for _, s := range sessions {
		missing := toldMissing(s)
		b, e := receiver.Block(s)
		switch {
		case receiver.Missing(s) != missing:
			t.Fatalf("Missing of %+v: %d, want %d", s, receiver.Missing(s), missing)
		case missing == 0 && (e != api.OK || text(b) != text(s.Bytes)):
			t.Fatalf("Block of %+v: %v, error %d", s, b, e)
		case missing > 0 && (e != api.ErrNone || len(b) != 0):
			t.Fatalf("Block of %+v: %v, error %d", s, b, e)
		}
	}
}

// others are what makes a session another one, by one field each.
func others() map[string]func(s *api.Taking) {
	return map[string]func(s *api.Taking){
		"Source": func(s *api.Taking) { s.Source++ }, "Session": func(s *api.Taking) { s.Session++ }, "Total": func(s *api.Taking) { s.Total++ }, "Serial": func(s *api.Taking) { s.Serial++ },
		"State": func(s *api.Taking) { s.State++ }, "Life": func(s *api.Taking) { s.Life++ }, "Due": func(s *api.Taking) { s.Due++ },
		"the last byte": func(s *api.Taking) { s.Bytes[449]++ }, "the first byte": func(s *api.Taking) { s.Bytes[0]++ }, "one that has come in": func(s *api.Taking) { s.Bytes[110]++ }, "fewer bytes": func(s *api.Taking) { s.Bytes = s.Bytes[:449] }, "more bytes": func(s *api.Taking) { s.Bytes = append(s.Bytes, 0) }, "no bytes": func(s *api.Taking) { s.Bytes = nil },
		"At of Got": func(s *api.Taking) { s.Got[2].At++ }, "N of Got": func(s *api.Taking) { s.Got[0].N++ }, "less Got": func(s *api.Taking) { s.Got = s.Got[:2] }, "more Got": func(s *api.Taking) { s.Got = append(s.Got, api.Claim{}) }, "no Got": func(s *api.Taking) { s.Got = nil }, "Got in another order": func(s *api.Taking) { s.Got[0], s.Got[1] = s.Got[1], s.Got[0] }, "At and N exchanged": func(s *api.Taking) { s.Got[1] = api.Claim{At: 150, N: 100} },
		"Life and Due exchanged": func(s *api.Taking) { s.Life, s.Due = s.Due, s.Life }, "Session and Serial exchanged": func(s *api.Taking) { s.Session, s.Serial = s.Serial, s.Session }, "Source and State exchanged": func(s *api.Taking) { s.Source, s.State = s.State, s.Source },
	}
}

// P15.4: Same of two that are the same, and with one field changed, both ways; whether they may be is not asked.
func TestSame(t *testing.T) {
	for what, f := range others() {
		for _, a := range []api.Taking{unlike(), changed(unlike(), func(s *api.Taking) { s.State = 9 })} {
			b := changed(a, f)
			if receiver.Same(a, b) || receiver.Same(b, a) {
				t.Errorf("%s: the same", what)
			}
			if !receiver.Same(a, deep(a)) || !receiver.Same(b, deep(b)) {
				t.Errorf("%s: not the same as itself", what)
			}
		}
	}
	for what, s := range wrongSessions() {
		if !receiver.Same(s, deep(s)) || receiver.Same(s, unlike()) {
			t.Errorf("%s", what)
		}
	}
	for what, s := range rightSessions() {
		if !receiver.Same(s, deep(s)) {
			t.Errorf("%s", what)
		}
	}
}

// P15.4: a field that is another one by whichever bit.
func TestSameOfEachBit(t *testing.T) {
	for bit := range 64 {
		for i, f := range []func(s *api.Taking){
			func(s *api.Taking) { s.Source ^= 1 << bit }, func(s *api.Taking) { s.Total ^= 1 << bit }, func(s *api.Taking) { s.State ^= 1 << bit }, func(s *api.Taking) { s.Life ^= 1 << bit }, func(s *api.Taking) { s.Due ^= 1 << bit },
			func(s *api.Taking) { s.Session ^= 1 << (bit % 32) }, func(s *api.Taking) { s.Serial ^= 1 << (bit % 32) }, func(s *api.Taking) { s.Bytes[bit*7] ^= 1 << (bit % 8) }, func(s *api.Taking) { s.Got[bit%3].At ^= 1 << bit }, func(s *api.Taking) { s.Got[bit%3].N ^= 1 << bit },
		} {
			if b := changed(unlike(), f); receiver.Same(unlike(), b) || receiver.Same(b, unlike()) {
				t.Errorf("the field %d by the bit %d: the same", i, bit)
			}
		}
	}
}

// P15.4, R3: nil and empty lists are one; the room behind a list's end does not count.
func TestSameOfNilAndEmpty(t *testing.T) {
	empty := api.Taking{Bytes: []byte{}, Got: []api.Claim{}}
	if !receiver.Same(empty, api.Taking{}) || !receiver.Same(api.Taking{}, empty) {
		t.Error("nil and empty are not one")
	}
	a, b := api.Taking{Bytes: []byte{5, 6, 7}[:2], Got: rows(1, 2, 3, 4)[:1]}, api.Taking{Bytes: []byte{5, 6}, Got: rows(1, 2)}
	if !receiver.Same(a, b) || !receiver.Same(b, a) {
		t.Error("the room behind the end counts")
	}
}
