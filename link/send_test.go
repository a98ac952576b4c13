package link_test

import (
	"fmt"
	"math"
	"slices"
	"testing"

	"heliograph/api"
	"heliograph/link"
)

// P12.2, P12.3, P12.4: the numbers of package api are those that the document says.
func TestNumbers(t *testing.T) {
	if api.MaxFlying != 512 || api.MaxWire != 400 || api.MaxNodes != 6 || api.MaxTick != 1<<20 {
		t.Error("a limit of package api is another one than the document says")
	}
	if api.OK != 0 || api.ErrNil != 1 || api.ErrArg != 2 || api.ErrNone != 4 || api.ErrFull != 6 {
		t.Error("an error of package api is another one than the document says")
	}
}

// P12.1 to P12.5: the chapter's examples, one behind the other.
func TestExamples(t *testing.T) {
	l := with(t)
	answers(t, "the first Send", l.Send(fly(1, 2, 5, 7)), api.OK)
	answers(t, "the second Send", l.Send(fly(1, 2, 3, 8)), api.OK)
	if a, b := l.Arrived(1, 2, 4), l.Arrived(2, 1, 9); a != 1 || b != 0 {
		t.Errorf("Arrived: %d, %d; want 1, 0", a, b)
	}
	delivers(t, l, 1, 2, 4, 0, 8)
	refusesDeliver(t, l, api.ErrNone, 1, 2, 4, 0)
	answers(t, "Double", l.Double(1, 2, 0), api.OK)
	answers(t, "Corrupt", l.Corrupt(1, 2, 0, 0), api.OK)
	has(t, "doubled and turned", l, 1, 2, fly(1, 2, 5, 0x87), fly(1, 2, 5, 7))
	if l.Len() != 2 {
		t.Errorf("Len: %d, want 2", l.Len())
	}
	refuses(t, "Lose(1, 2, 2)", l, api.ErrNone, func() api.Errno { return l.Lose(1, 2, 2) })
	refuses(t, "Corrupt(1, 2, 0, 8)", l, api.ErrArg, func() api.Errno { return l.Corrupt(1, 2, 0, 8) })
	refuses(t, "Send from 1 to 1", l, api.ErrArg, func() api.Errno { return l.Send(fly(1, 1, 0, 7)) })
	refuses(t, "Send of no bytes", l, api.ErrArg, func() api.Errno { return l.Send(fly(1, 2, 0)) })
}

// P12.1: no flights, of no pair.
func TestNewHasNoFlights(t *testing.T) {
	l := link.New()
	if l == nil {
		t.Fatal("New: nil")
	}
	if l.Len() != 0 {
		t.Errorf("Len: %d", l.Len())
	}
	for _, p := range append(pairs(), noPairs()...) {
		has(t, "new links", l, p[0], p[1])
		if n := l.Arrived(p[0], p[1], math.MaxInt); n != 0 {
			t.Errorf("Arrived of %v: %d", p, n)
		}
	}
	answers(t, "Lose", l.Lose(1, 2, 0), api.ErrNone)
	answers(t, "Double", l.Double(1, 2, 0), api.ErrNone)
	answers(t, "Corrupt", l.Corrupt(1, 2, 0, 0), api.ErrNone)
	refusesDeliver(t, l, api.ErrNone, 1, 2, math.MaxInt, 0)
}

// P12.1, R5: what is done with links touches no others that New made, ahead of it or behind.
func TestNewLinksAreTheirOwn(t *testing.T) {
	a := link.New()
	l := with(t, five()...)
	b := link.New()
	for _, other := range []*link.Links{a, b} {
		if other.Len() != 0 || other == l {
			t.Errorf("the others: Len %d", other.Len())
		}
		has(t, "the others", other, 1, 2)
	}
	sends(t, a, fly(1, 2, 1, 9))
	has(t, "the first ones", l, 1, 2, five()...)
}

// P12.2: From and To are unlike nodes, all of them.
func TestSendOfNodes(t *testing.T) {
	nodes := []int{math.MinInt, math.MinInt + 1, -6, -2, -1, 0, 1, 2, 3, 4, 5, 6, 7, 8, 257, 1<<32 + 1, 1<<32 + 2, math.MaxInt - 1, math.MaxInt}
	taken := 0
	for _, from := range nodes {
		for _, to := range nodes {
			l, x := with(t), fly(from, to, 3, 7)
			if from < 1 || from > 6 || to < 1 || to > 6 || from == to {
				refuses(t, fmt.Sprintf("Send from %d to %d", from, to), l, api.ErrArg, func() api.Errno { return l.Send(x) })
				has(t, "refused", l, from, to)
				continue
			}
			sends(t, l, x)
			has(t, "sent", l, from, to, x)
			taken++
		}
	}
	if taken != 30 {
		t.Errorf("%d pairs were taken", taken)
	}
}

// P12.2: At is a moment.
func TestSendOfMoments(t *testing.T) {
	for at, ok := range map[int]bool{math.MinInt: false, -1 << 20: false, -2: false, -1: false, 0: true, 1: true, 1<<20 - 1: true, 1 << 20: true, 1<<20 + 1: false, 1 << 21: false, 1 << 32: false, 1<<32 + 1: false, math.MaxInt: false} {
		l, x := with(t), fly(1, 2, at, 7)
		if ok {
			sends(t, l, x)
			has(t, "sent", l, 1, 2, x)
		} else {
			refuses(t, fmt.Sprint("Send at ", at), l, api.ErrArg, func() api.Errno { return l.Send(x) })
		}
	}
}

// P12.2: there are 1 to MaxWire bytes; the room behind their end does not count.
func TestSendOfBytes(t *testing.T) {
	all := fill(1, 70000)
	for _, n := range []int{0, 1, 2, 7, 8, 255, 256, 257, 399, 400, 401, 402, 512, 800, 65535, 65536, 65537, 65936, 70000} {
		l, x := with(t), fly(1, 2, 3, all[:n]...)
		if n >= 1 && n <= 400 {
			sends(t, l, x)
			has(t, fmt.Sprint(n, " bytes sent"), l, 1, 2, x)
			delivers(t, l, 1, 2, 3, 0, all[:n]...)
		} else {
			refuses(t, fmt.Sprint("Send of ", n, " bytes"), l, api.ErrArg, func() api.Errno { return l.Send(x) })
		}
	}
	l := with(t)
	refuses(t, "Send of nil", l, api.ErrArg, func() api.Errno { return l.Send(api.Flight{From: 1, To: 2}) })
	refuses(t, "Send of a zero flight", l, api.ErrArg, func() api.Errno { return l.Send(api.Flight{}) })
}

// P12.2: what is sent is the last one of its pair, whenever it arrives, and be it like another one.
func TestSendMakesTheLastOne(t *testing.T) {
	l := with(t)
	var want []api.Flight
	for i, at := range []int{5, 3, 9, 3, 0, 1 << 20, 3, 0} {
		x := fly(1, 2, at, byte(i), 1)
		sends(t, l, x, neighbours()[i%6])
		want = append(want, x)
		has(t, "sent", l, 1, 2, want...)
	}
	sends(t, l, want[0], want[0])
	has(t, "sent again", l, 1, 2, append(want, want[0], want[0])...)
}

// P12.2: 511 and 512 flights, and one more, over one pair and over several.
func TestSendTillItIsFull(t *testing.T) {
	for _, over := range []int{1, 2, 7, 30} {
		l := with(t)
		want := map[[2]int][]api.Flight{}
		for i := range 512 {
			p := pairs()[i%over]
			x := api.Flight{From: p[0], To: p[1], At: i % 10, Bytes: fill(i, 1+i%5)}
			sends(t, l, x)
			want[p] = append(want[p], x)
			if l.Len() != i+1 {
				t.Fatalf("%d pairs: Len %d behind %d", over, l.Len(), i+1)
			}
		}
		for _, p := range pairs() {
			has(t, "512 sent", l, p[0], p[1], want[p]...)
			refuses(t, fmt.Sprint("one more from and to ", p), l, api.ErrFull, func() api.Errno { return l.Send(fly(p[0], p[1], 0, 1)) })
		}
	}
}

// P12.2, P12.4: where one has gone there is room for one, and no more.
func TestRoomComesBack(t *testing.T) {
	for _, over := range []int{1, 30} {
		l := full(t, over)
		for _, free := range []change{
			{"Lose", func(l *link.Links) api.Errno { return l.Lose(1, 2, 0) }, true},
			{"Deliver", func(l *link.Links) api.Errno { _, e := l.Deliver(1, 2, 9, 0); return e }, true},
		} {
			answers(t, free.name, free.do(l), api.OK)
			sends(t, l, fly(1, 2, 4, 1))
			answers(t, "Send behind "+free.name, l.Send(fly(1, 2, 4, 1)), api.ErrFull)
			answers(t, free.name, free.do(l), api.OK)
			answers(t, "Double behind "+free.name, l.Double(1, 2, 1), api.OK)
			answers(t, "Double twice behind "+free.name, l.Double(1, 2, 1), api.ErrFull)
			if l.Len() != 512 {
				t.Errorf("%s: Len %d", free.name, l.Len())
			}
		}
	}
}

// P12.2, R2: nil goes ahead of what may not be, and that ahead of no room.
func TestSendOrderOfErrors(t *testing.T) {
	wrong := []api.Flight{{}, fly(0, 2, 3, 7), fly(1, 7, 3, 7), fly(1, 1, 3, 7), fly(1, 2, -1, 7), fly(1, 2, 1<<20+1, 7), fly(1, 2, 3), fly(1, 2, 3, fill(1, 401)...), fly(7, 7, -1, fill(1, 401)...)}
	l := full(t, 1)
	for i, x := range wrong {
		answers(t, fmt.Sprint("nil, wrong flight ", i), (*link.Links)(nil).Send(x), api.ErrNil)
		answers(t, fmt.Sprint("full, wrong flight ", i), l.Send(x), api.ErrArg)
		some := with(t, slices.Concat(five(), neighbours())...)
		refuses(t, fmt.Sprint("wrong flight ", i), some, api.ErrArg, func() api.Errno { return some.Send(x) })
	}
	answers(t, "nil", (*link.Links)(nil).Send(fly(1, 2, 3, 7)), api.ErrNil)
	refuses(t, "full", l, api.ErrFull, func() api.Errno { return l.Send(fly(1, 2, 3, 7)) })
}
