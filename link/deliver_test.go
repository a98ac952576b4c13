package link_test

import (
	"math"
	"slices"
	"testing"

	"heliograph/api"
	"heliograph/link"
)

func arrives(t *testing.T, l *link.Links, from, to, now, want int) {
	t.Helper()
	if n := l.Arrived(from, to, now); n != want {
		t.Errorf("Arrived(%d, %d, %d): %d, want %d", from, to, now, n, want)
	}
}

// P12.3: a flight has arrived at its moment, not ahead of it, and ever behind.
func TestArrivedAtItsMoment(t *testing.T) {
	for _, at := range []int{0, 1, 2, 7, 1000, 1<<20 - 1, 1 << 20} {
		l := with(t, fly(1, 2, at, 7))
		for _, now := range []int{math.MinInt, -1 << 32, -1, at - 1} {
			arrives(t, l, 1, 2, now, 0)
			refusesDeliver(t, l, api.ErrNone, 1, 2, now, 0)
		}
		for _, now := range []int{at, at + 1, 1 << 20, 1<<20 + 1, 1 << 32, math.MaxInt} {
			arrives(t, l, 1, 2, now, 1)
			delivers(t, l.Copy(), 1, 2, now, 0, 7)
		}
	}
}

// P12.3: the pair's own are counted, wherever they stand.
func TestArrivedOfSeveral(t *testing.T) {
	l := with(t, slices.Concat(neighbours(), five(), neighbours())...)
	for now, want := range map[int]int{math.MinInt: 0, -1: 0, 0: 1, 1: 1, 2: 1, 3: 3, 4: 3, 5: 4, 8: 4, 9: 5, 10: 5, math.MaxInt: 5} {
		arrives(t, l, 1, 2, now, want)
	}
	for _, x := range neighbours() {
		arrives(t, l, x.From, x.To, 2, 0)
		arrives(t, l, x.From, x.To, 3, 2)
	}
	for _, p := range noPairs() {
		arrives(t, l, p[0], p[1], math.MaxInt, 0)
	}
	arrives(t, l, 4, 1, math.MaxInt, 0)
	arrives(t, l, 6, 5, math.MaxInt, 0)
	arrives(t, full(t, 1), 1, 2, 9, 512)
}

// P12.3: n counts those that have arrived alone; the one is gone, and the others stand as they stood.
func TestDeliverTakesTheNthThatHasArrived(t *testing.T) {
	rows := []struct{ now, n, place int }{
		{0, 0, 3}, {1, 0, 3}, {2, 0, 3},
		{3, 0, 1}, {3, 1, 3}, {3, 2, 4},
		{4, 0, 1}, {4, 1, 3}, {4, 2, 4},
		{5, 0, 0}, {5, 1, 1}, {5, 2, 3}, {5, 3, 4},
		{9, 0, 0}, {9, 1, 1}, {9, 2, 2}, {9, 3, 3}, {9, 4, 4},
		{math.MaxInt, 0, 0}, {math.MaxInt, 4, 4},
	}
	for _, r := range rows {
		l := with(t, slices.Concat(neighbours(), five())...)
		delivers(t, l, 1, 2, r.now, r.n, five()[r.place].Bytes...)
		has(t, "delivered", l, 1, 2, but(five(), r.place)...)
		if l.Len() != 10 {
			t.Errorf("Len: %d, want 10", l.Len())
		}
		for _, x := range neighbours() {
			has(t, "another pair", l, x.From, x.To, x)
		}
	}
}

// P12.3: numbers below 0, and not below Arrived, though the pair has such flights.
func TestDeliverOfNumbersThatThereAreNot(t *testing.T) {
	l := with(t, slices.Concat(five(), neighbours())...)
	for now, arrived := range map[int]int{math.MinInt: 0, -1: 0, 0: 1, 2: 1, 3: 3, 5: 4, 9: 5, math.MaxInt: 5} {
		for _, n := range []int{math.MinInt, math.MinInt + 1, math.MinInt + 4, -1 << 32, -6, -5, -2, -1, arrived, arrived + 1, 5, 6, 511, 512, 1 << 32, 1<<32 + 1, math.MaxInt - 1, math.MaxInt} {
			if n < 0 || n >= arrived {
				refusesDeliver(t, l, api.ErrNone, 1, 2, now, n)
			}
		}
	}
}

// P12.3: pairs that have no flight, or are none of nodes.
func TestDeliverOfPairsWithoutFlights(t *testing.T) {
	l := with(t, slices.Concat(five(), neighbours())...)
	for _, p := range append(noPairs(), [2]int{4, 1}, [2]int{1, 4}, [2]int{6, 5}) {
		for _, n := range []int{-1, 0, 1, math.MaxInt} {
			refusesDeliver(t, l, api.ErrNone, p[0], p[1], math.MaxInt, n)
		}
	}
	l = with(t, five()...)
	refusesDeliver(t, l, api.ErrNone, 2, 1, 9, 0)
}

// P12.3: all of them, from the first on, from the last on, and from the midst on.
func TestDeliverAll(t *testing.T) {
	ways := map[string]func(left int) int{
		"from the first on": func(int) int { return 0 },
		"from the last on":  func(left int) int { return left - 1 },
		"from the midst on": func(left int) int { return left / 2 },
	}
	for what, pick := range ways {
		l, want := with(t, slices.Concat(five(), five())...), slices.Concat(five(), five())
		for len(want) > 0 {
			n := pick(len(want))
			delivers(t, l, 1, 2, 9, n, want[n].Bytes...)
			want = but(want, n)
			has(t, what, l, 1, 2, want...)
			arrives(t, l, 1, 2, 9, len(want))
		}
		refusesDeliver(t, l, api.ErrNone, 1, 2, 9, 0)
		if l.Len() != 0 {
			t.Errorf("%s: Len %d", what, l.Len())
		}
		sends(t, l, fly(1, 2, 1, 1))
		has(t, what+", sent again", l, 1, 2, fly(1, 2, 1, 1))
	}
}

// P12.3: all 512 come, once each, in their order by time and place.
func TestDeliverOfAFullPair(t *testing.T) {
	l := full(t, 1)
	all := told(t, l, 1, 2)
	for now := range 10 {
		for _, x := range all {
			if x.At == now {
				delivers(t, l, 1, 2, now, 0, x.Bytes...)
			}
		}
		arrives(t, l, 1, 2, now, 0)
	}
	if l.Len() != 0 {
		t.Errorf("Len: %d", l.Len())
	}
}
