package link_test

import (
	"fmt"
	"iter"
	"math"
	"slices"
	"testing"

	"heliograph/api"
	"heliograph/link"
)

// tells asks what an iterator tells.
func tells(t *testing.T, what string, all iter.Seq2[int, api.Flight], want []api.Flight) {
	t.Helper()
	count := 0
	for i, x := range all {
		if i != count || i >= len(want) || !alike(x, want[i]) {
			t.Errorf("%s: at the place %d it tells %d, %s", what, count, i, short([]api.Flight{x}))
		}
		count++
	}
	if count != len(want) {
		t.Errorf("%s: it tells %d flights, want %d", what, count, len(want))
	}
}

// P12.5: the pair's flights alone, in order, with their numbers.
func TestAll(t *testing.T) {
	l := with(t)
	for i, x := range five() {
		sends(t, l, x)
		for _, y := range neighbours() {
			sends(t, l, y)
			tells(t, "All of another pair", l.All(y.From, y.To), slices.Repeat([]api.Flight{y}, i+1))
		}
		tells(t, "All", l.All(1, 2), five()[:i+1])
	}
	for _, p := range append(noPairs(), [2]int{4, 1}, [2]int{1, 4}, [2]int{6, 5}) {
		tells(t, "All of a pair without flights", l.All(p[0], p[1]), nil)
	}
	if got := told(t, full(t, 1), 1, 2); len(got) != 512 {
		t.Errorf("All of full links: %d", len(got))
	}
}

// P12.5: what was changed behind the call of All is not told, wherever the iterator is by then, and each time that it is gone through.
func TestAllTellsWhatWasThere(t *testing.T) {
	for _, size := range []int{2, 3, 4, 5, 8, 9} {
		start := slices.Concat(five(), five())[:size]
		for _, c := range changes() {
			for at := -1; at < size; at++ {
				l := with(t, slices.Concat(start, neighbours())...)
				all := l.All(1, 2)
				what := fmt.Sprintf("%s of %d, at %d", c.name, size, at)
				if at < 0 {
					answers(t, what, c.do(l), api.OK)
				}
				count := 0
				for i, x := range all {
					if i != count || i >= size || !alike(x, start[i]) {
						t.Fatalf("%s: at the place %d it tells %d, %s", what, count, i, short([]api.Flight{x}))
					}
					if i == at {
						answers(t, what, c.do(l), api.OK)
					}
					count++
				}
				if count != size {
					t.Errorf("%s: it tells %d", what, count)
				}
				tells(t, what+", again", all, start)
			}
		}
	}
}

// P12.5: whatever is done while it is gone through, at each flight; and links do not mind that an iterator is about.
func TestAllWhileMuchIsDone(t *testing.T) {
	for _, c := range changes() {
		if c.takes {
			continue // there are not enough flights to take the same one at each
		}
		l, twin := with(t, five()...), with(t, five()...)
		all := l.All(1, 2)
		for i, x := range all {
			if !alike(x, five()[i]) {
				t.Errorf("%s at each: %d is %s", c.name, i, short([]api.Flight{x}))
			}
			answers(t, c.name, c.do(l), api.OK)
			answers(t, c.name, c.do(twin), api.OK)
		}
		same(t, c.name+" at each", l, look(t, twin))
		tells(t, c.name+" at each, again", all, five())
	}
	l := with(t, five()...)
	count := 0
	for i, x := range l.All(1, 2) {
		if !alike(x, five()[i]) {
			t.Errorf("lost at each: %d is %s", i, short([]api.Flight{x}))
		}
		answers(t, "Lose", l.Lose(1, 2, 0), api.OK)
		count++
	}
	if count != 5 || l.Len() != 0 {
		t.Errorf("lost at each: %d were told, %d are left", count, l.Len())
	}
}

// P12.5, R6: it may be left early, at each place, and gone through again; one pass within another one.
func TestAllIsLeftEarly(t *testing.T) {
	l := with(t, five()...)
	all := l.All(1, 2)
	for stop := range 5 {
		calls := 0
		all(func(i int, x api.Flight) bool {
			if i != calls || !alike(x, five()[i]) {
				t.Errorf("left at %d: at the place %d it tells %d, %s", stop, calls, i, short([]api.Flight{x}))
			}
			calls++
			return i != stop
		})
		if calls != stop+1 {
			t.Errorf("left at %d: %d were told", stop, calls)
		}
		tells(t, "gone through again", all, five())
	}
	for range all {
		tells(t, "one within the other", all, five())
		tells(t, "another one within", l.All(1, 2), five())
	}
	same(t, "left early", l, look(t, with(t, five()...)))
}

// P12.5: several iterators, each from its own moment.
func TestSeveralIterators(t *testing.T) {
	l := with(t)
	list := []iter.Seq2[int, api.Flight]{l.All(1, 2)}
	for i := range 20 {
		sends(t, l, fly(1, 2, i, byte(i)))
		list = append(list, l.All(1, 2))
	}
	var want []api.Flight
	for i := range 21 {
		tells(t, fmt.Sprint("behind ", i), list[i], want)
		want = append(want, fly(1, 2, i, byte(i)))
	}
	for i := range 20 {
		answers(t, "Corrupt", l.Corrupt(1, 2, i, 7), api.OK)
	}
	for range 20 {
		answers(t, "Lose", l.Lose(1, 2, 0), api.OK)
	}
	for i := range 21 {
		tells(t, fmt.Sprint("turned and lost, behind ", i), list[i], want[:i])
	}
}

// P12.5: Len counts those of all pairs, behind each change.
func TestLen(t *testing.T) {
	l := with(t)
	want := 0
	is := func(what string) {
		t.Helper()
		if l.Len() != want {
			t.Errorf("%s: Len %d, want %d", what, l.Len(), want)
		}
	}
	is("none")
	for i, p := range pairs() {
		for k := range i % 4 {
			sends(t, l, fly(p[0], p[1], k, 1))
			want++
			is("Send")
		}
	}
	for _, p := range pairs() {
		if l.Double(p[0], p[1], 0) == api.OK {
			want++
		}
		is("Double")
		l.Corrupt(p[0], p[1], 0, 0)
		is("Corrupt")
		if l.Lose(p[0], p[1], 1) == api.OK {
			want--
		}
		is("Lose")
		if _, e := l.Deliver(p[0], p[1], 9, 0); e == api.OK {
			want--
		}
		is("Deliver")
	}
}

// P12.5: a copy has the same flights, of all pairs.
func TestCopyIsTheSame(t *testing.T) {
	for _, l := range []*link.Links{with(t), with(t, five()...), with(t, slices.Concat(neighbours(), five())...), full(t, 1), full(t, 30)} {
		c := l.Copy()
		if c == nil || c == l {
			t.Fatal("Copy: nil, or the very same")
		}
		same(t, "the copy", c, look(t, l))
		same(t, "the copy's copy", c.Copy(), look(t, l))
	}
}

// P12.5: whatever is done to the one, the other is as it was; with any number of flights, so that a list has room behind its end or not.
func TestCopyGoesOnByItself(t *testing.T) {
	for size := 2; size < 20; size++ {
		start := slices.Concat(five(), five(), five(), five())[:size]
		for _, c := range changes() {
			for _, swap := range []bool{false, true} {
				a := with(t, slices.Concat(neighbours(), start)...)
				b := a.Copy()
				if swap {
					a, b = b, a
				}
				was := look(t, a)
				answers(t, c.name, c.do(a), api.OK)
				same(t, c.name+" of the one", b, was)
				twin := with(t, slices.Concat(neighbours(), start)...)
				answers(t, c.name, c.do(twin), api.OK)
				same(t, c.name+" done", a, look(t, twin))
				for _, d := range changes() {
					now := look(t, a)
					answers(t, d.name, d.do(b.Copy()), api.OK)
					answers(t, d.name, d.do(b), api.OK)
					same(t, c.name+", then "+d.name+" of the other", a, now)
					b = with(t, slices.Concat(neighbours(), start)...)
				}
			}
		}
	}
}

// P12.5: both go on with flights of their own behind the same ones.
func TestCopyAndItsOriginSend(t *testing.T) {
	for size := range 20 {
		var start []api.Flight
		for i := range size {
			start = append(start, fly(1, 2, i%10, byte(i)))
		}
		a := with(t, start...)
		b := a.Copy()
		for i := range 10 {
			sends(t, a, fly(1, 2, 1, 0xa0, byte(i)))
			sends(t, b, fly(1, 2, 2, 0xb0, byte(i)))
		}
		for i, l := range []*link.Links{a, b} {
			want := slices.Clone(start)
			for k := range 10 {
				want = append(want, fly(1, 2, 1+i, byte(0xa0+16*i), byte(k)))
			}
			has(t, "both sent", l, 1, 2, want...)
		}
	}
}

// P12.5: room of a copy is its own.
func TestCopyOfFullLinks(t *testing.T) {
	l := full(t, 30)
	c := l.Copy()
	answers(t, "Send to the copy", c.Send(fly(1, 2, 3, 7)), api.ErrFull)
	answers(t, "Lose of the copy", c.Lose(1, 2, 0), api.OK)
	answers(t, "Send to the first", l.Send(fly(1, 2, 3, 7)), api.ErrFull)
	answers(t, "Double of the first", l.Double(1, 2, 0), api.ErrFull)
	sends(t, c, fly(1, 2, 3, 7))
	answers(t, "Send to the copy again", c.Send(fly(1, 2, 3, 7)), api.ErrFull)
	answers(t, "Lose of the first", l.Lose(3, 4, 0), api.OK)
	answers(t, "Double of the copy", c.Double(3, 4, 0), api.ErrFull)
	sends(t, l, fly(3, 4, 3, 7))
	if l.Len() != 512 || c.Len() != 512 {
		t.Errorf("Len: %d, %d", l.Len(), c.Len())
	}
}

// R4: each call of nil, with arguments that may be and that may not.
func TestNilLinks(t *testing.T) {
	var l *link.Links
	for _, x := range []int{math.MinInt, -1, 0, 1, 2, 7, math.MaxInt} {
		for _, y := range []int{math.MinInt, -1, 0, 1, 2, math.MaxInt} {
			answers(t, "Send", l.Send(fly(x, y, 3, 7)), api.ErrNil)
			answers(t, "Lose", l.Lose(x, 2, y), api.ErrNil)
			answers(t, "Double", l.Double(1, x, y), api.ErrNil)
			answers(t, "Corrupt", l.Corrupt(1, 2, x, y), api.ErrNil)
			if b, e := l.Deliver(1, 2, x, y); e != api.ErrNil || len(b) != 0 {
				t.Errorf("Deliver: % x, error %d", b, e)
			}
			if n := l.Arrived(x, 2, y); n != 0 {
				t.Errorf("Arrived: %d", n)
			}
			tells(t, "nil", l.All(x, y), nil)
		}
	}
	tells(t, "nil", l.All(1, 2), nil)
	if l.Len() != 0 || l.Copy() != nil {
		t.Error("Len or Copy of nil")
	}
}
