package link_test

import (
	"bytes"
	"fmt"
	"math"
	"slices"
	"strings"
	"testing"

	"heliograph/api"
	"heliograph/link"
)

func fly(from, to, at int, b ...byte) api.Flight {
	return api.Flight{From: from, To: to, At: at, Bytes: b}
}

// fill answers n bytes that hang on x, each unlike its neighbour.
func fill(x, n int) []byte {
	b := make([]byte, n)
	for i := range b {
		b[i] = byte(x + 7*i + i/256)
	}
	return b
}

// deep answers a flight with bytes of its own.
func deep(x api.Flight) api.Flight {
	x.Bytes = bytes.Clone(x.Bytes)
	return x
}

func alike(a, b api.Flight) bool {
	return a.From == b.From && a.To == b.To && a.At == b.At && bytes.Equal(a.Bytes, b.Bytes)
}

func answers(t *testing.T, what string, got, want api.Errno) {
	t.Helper()
	if got != want {
		t.Errorf("%s: error %d, want %d", what, got, want)
	}
}

func sends(t *testing.T, l *link.Links, list ...api.Flight) {
	t.Helper()
	for _, x := range list {
		answers(t, fmt.Sprintf("Send from %d to %d at %d", x.From, x.To, x.At), l.Send(x), api.OK)
	}
}

// with answers links that have these flights.
func with(t *testing.T, list ...api.Flight) *link.Links {
	t.Helper()
	l := link.New()
	if l == nil {
		t.Fatal("New: nil")
	}
	sends(t, l, list...)
	return l
}

// pairs are all pairs of unlike nodes.
func pairs() [][2]int {
	var out [][2]int
	for from := 1; from <= 6; from++ {
		for to := 1; to <= 6; to++ {
			if from != to {
				out = append(out, [2]int{from, to})
			}
		}
	}
	return out
}

// noPairs are pairs that are none of nodes, some of which would be taken for such ones, if they were made one number, or cut.
func noPairs() [][2]int {
	out := [][2]int{{1, 1}, {2, 2}, {6, 6}, {0, 0}, {0, 8}, {0, 14}, {2, -5}, {257, 2}, {1, 258}, {1<<32 + 1, 2}, {1, 1<<32 + 2}, {-1, -2}}
	for _, x := range []int{math.MinInt, math.MinInt + 1, -1, 0, 7, 8, math.MaxInt - 1, math.MaxInt} {
		out = append(out, [2]int{x, 1}, [2]int{x, 2}, [2]int{1, x}, [2]int{2, x}, [2]int{x, x})
	}
	return out
}

// told answers what All tells of the pair.
func told(t *testing.T, l *link.Links, from, to int) []api.Flight {
	t.Helper()
	var out []api.Flight
	for i, x := range l.All(from, to) {
		if i != len(out) {
			t.Errorf("All(%d, %d): the number %d at the place %d", from, to, i, len(out))
		}
		out = append(out, x)
	}
	return out
}

// has asks for the pair's flights.
func has(t *testing.T, what string, l *link.Links, from, to int, want ...api.Flight) {
	t.Helper()
	if got := told(t, l, from, to); !slices.EqualFunc(got, want, alike) {
		t.Errorf("%s: from %d to %d there are %s; want %s", what, from, to, short(got), short(want))
	}
}

// short tells flights without all of their bytes.
func short(list []api.Flight) string {
	var out strings.Builder
	for _, x := range list {
		fmt.Fprintf(&out, "(%d, %d, %d: %d bytes % x) ", x.From, x.To, x.At, len(x.Bytes), x.Bytes[:min(8, len(x.Bytes))])
	}
	return fmt.Sprint(len(list), ": ", out.String())
}

// moments are those at which look asks what has arrived.
func moments() []int {
	out := []int{math.MinInt, -1, 1<<20 - 1, 1 << 20, 1<<20 + 1, math.MaxInt}
	for i := range 12 {
		out = append(out, i)
	}
	return out
}

// look answers all that links tell.
func look(t *testing.T, l *link.Links) string {
	t.Helper()
	var out strings.Builder
	fmt.Fprintln(&out, l.Len())
	for _, p := range append(pairs(), noPairs()...) {
		for _, x := range told(t, l, p[0], p[1]) {
			fmt.Fprintf(&out, "%v %d %d %d %x\n", p, x.From, x.To, x.At, x.Bytes)
		}
		for _, now := range moments() {
			if n := l.Arrived(p[0], p[1], now); n != 0 {
				fmt.Fprintf(&out, "%v %d at %d\n", p, n, now)
			}
		}
	}
	return out.String()
}

// same asks whether links tell what was told.
func same(t *testing.T, what string, l *link.Links, was string) {
	t.Helper()
	if now := look(t, l); now != was {
		t.Errorf("%s: it tells %s; want %s", what, cut(now), cut(was))
	}
}

func cut(text string) string {
	return text[:min(600, len(text))]
}

// refuses asks for an error, and that nothing has changed.
func refuses(t *testing.T, what string, l *link.Links, want api.Errno, do func() api.Errno) {
	t.Helper()
	was := look(t, l)
	answers(t, what, do(), want)
	same(t, what, l, was)
}

// refusesDeliver asks for an error of Deliver, no bytes, and that nothing has changed.
func refusesDeliver(t *testing.T, l *link.Links, want api.Errno, from, to, now, n int) {
	t.Helper()
	what := fmt.Sprintf("Deliver(%d, %d, %d, %d)", from, to, now, n)
	refuses(t, what, l, want, func() api.Errno {
		b, e := l.Deliver(from, to, now, n)
		if len(b) != 0 {
			t.Errorf("%s: % x beside an error", what, b)
		}
		return e
	})
}

// delivers asks for bytes.
func delivers(t *testing.T, l *link.Links, from, to, now, n int, want ...byte) {
	t.Helper()
	if b, e := l.Deliver(from, to, now, n); e != api.OK || !bytes.Equal(b, want) {
		t.Errorf("Deliver(%d, %d, %d, %d): % x, error %d; want % x", from, to, now, n, b, e, want)
	}
}

// full answers links with 512 flights, over so many pairs.
func full(t *testing.T, over int) *link.Links {
	t.Helper()
	l := with(t)
	for i := range 512 {
		p := pairs()[i%over]
		sends(t, l, api.Flight{From: p[0], To: p[1], At: i % 10, Bytes: fill(i, 1+i%5)})
	}
	return l
}

// five are flights of one pair, of which some have arrived by 3 and some have not.
func five() []api.Flight {
	return []api.Flight{fly(1, 2, 5, 0x10, 0x11), fly(1, 2, 3, 0x20), fly(1, 2, 9, 0x30, 0x31, 0x32), fly(1, 2, 0, 0x40), fly(1, 2, 3, 0x50, 0x51)}
}

// neighbours are flights of other pairs that have a node of 1 and 2, or none.
func neighbours() []api.Flight {
	return []api.Flight{fly(2, 1, 3, 0xa1), fly(1, 3, 3, 0xa2), fly(3, 1, 3, 0xa3), fly(2, 3, 3, 0xa4), fly(3, 2, 3, 0xa5), fly(5, 6, 3, 0xa6)}
}

// but answers the list without the n-th.
func but(list []api.Flight, n int) []api.Flight {
	return slices.Concat(list[:n], list[n+1:])
}

// change is something that is done to the flights from 1 to 2.
type change struct {
	name  string
	do    func(l *link.Links) api.Errno
	takes bool // there is one less
}

// changes are those that can be done where the pair has two flights, of which one has arrived by 9, and there is room.
func changes() []change {
	return []change{
		{"Send", func(l *link.Links) api.Errno { return l.Send(fly(1, 2, 2, 0xe0, 0xe1)) }, false},
		{"Lose the first", func(l *link.Links) api.Errno { return l.Lose(1, 2, 0) }, true},
		{"Lose the second", func(l *link.Links) api.Errno { return l.Lose(1, 2, 1) }, true},
		{"Lose the last", func(l *link.Links) api.Errno { return l.Lose(1, 2, last(l)) }, true},
		{"Double the first", func(l *link.Links) api.Errno { return l.Double(1, 2, 0) }, false},
		{"Double the last", func(l *link.Links) api.Errno { return l.Double(1, 2, last(l)) }, false},
		{"Corrupt the first", func(l *link.Links) api.Errno { return l.Corrupt(1, 2, 0, 1) }, false},
		{"Corrupt the last", func(l *link.Links) api.Errno { return l.Corrupt(1, 2, last(l), 7) }, false},
		{"Deliver the first", func(l *link.Links) api.Errno { _, e := l.Deliver(1, 2, 9, 0); return e }, true},
		{"Deliver the last", func(l *link.Links) api.Errno { _, e := l.Deliver(1, 2, 9, l.Arrived(1, 2, 9)-1); return e }, true},
	}
}

// last answers the number of the last flight from 1 to 2.
func last(l *link.Links) int {
	return l.Arrived(1, 2, math.MaxInt) - 1
}
