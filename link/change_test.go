package link_test

import (
	"fmt"
	"math"
	"slices"
	"testing"

	"heliograph/api"
	"heliograph/link"
)

// wrongNumbers are numbers that no flight of n has.
func wrongNumbers(n int) []int {
	return []int{math.MinInt, math.MinInt + 1, -1 << 32, -n - 1, -n, -2, -1, n, n + 1, 511, 512, 513, 1 << 32, 1<<32 + 1, 1 << 60, math.MaxInt - 1, math.MaxInt}
}

// P12.4: each of a pair's flights, arrived or not.
func TestLose(t *testing.T) {
	for n := range five() {
		l := with(t, slices.Concat(neighbours(), five())...)
		answers(t, "Lose", l.Lose(1, 2, n), api.OK)
		has(t, fmt.Sprint("lost ", n), l, 1, 2, but(five(), n)...)
		if l.Len() != 10 {
			t.Errorf("lost %d: Len %d, want 10", n, l.Len())
		}
		sends(t, l, fly(1, 2, 1, 9))
		has(t, fmt.Sprint("lost ", n, ", sent one"), l, 1, 2, append(but(five(), n), fly(1, 2, 1, 9))...)
		for _, x := range neighbours() {
			has(t, "another pair", l, x.From, x.To, x)
		}
	}
	l := with(t, fly(1, 2, 3, 7))
	answers(t, "Lose of the only one", l.Lose(1, 2, 0), api.OK)
	has(t, "lost", l, 1, 2)
	answers(t, "Lose of none", l.Lose(1, 2, 0), api.ErrNone)
}

// P12.4: one more like it is the last one of the pair, be it the first, in the midst, or the last, arrived or not.
func TestDouble(t *testing.T) {
	for n := range five() {
		l := with(t, slices.Concat(neighbours(), five())...)
		want := append(five(), five()[n])
		answers(t, "Double", l.Double(1, 2, n), api.OK)
		has(t, fmt.Sprint("doubled ", n), l, 1, 2, want...)
		answers(t, "Double of the double", l.Double(1, 2, 5), api.OK)
		has(t, fmt.Sprint("doubled ", n, " twice"), l, 1, 2, append(want, five()[n])...)
		if l.Len() != 13 {
			t.Errorf("doubled %d: Len %d, want 13", n, l.Len())
		}
		for _, x := range neighbours() {
			has(t, "another pair", l, x.From, x.To, x)
		}
	}
}

// P12.4: 511 and 512 flights, and one more, over one pair and over several.
func TestDoubleTillItIsFull(t *testing.T) {
	for _, over := range []int{1, 2, 30} {
		l := with(t)
		for _, p := range pairs()[:over] {
			sends(t, l, fly(p[0], p[1], 3, byte(p[0]), byte(p[1])))
		}
		for i := over; i < 512; i++ {
			p := pairs()[i%over]
			answers(t, fmt.Sprint("Double with ", i), l.Double(p[0], p[1], i/over-1), api.OK)
			if l.Len() != i+1 {
				t.Fatalf("Len %d behind %d", l.Len(), i+1)
			}
		}
		for _, p := range pairs()[:over] {
			refuses(t, "Double with 512", l, api.ErrFull, func() api.Errno { return l.Double(p[0], p[1], 0) })
		}
		refuses(t, "Send with 512", l, api.ErrFull, func() api.Errno { return l.Send(fly(3, 4, 3, 1)) })
	}
}

// P12.4: which bit is turned: bit 0 is the highest one of the first byte.
func TestCorruptTurnsThatBit(t *testing.T) {
	for n, x := range five() {
		for bit := range 8 * len(x.Bytes) {
			l := with(t, slices.Concat(neighbours(), five())...)
			answers(t, "Corrupt", l.Corrupt(1, 2, n, bit), api.OK)
			want := five()
			worth := [8]byte{128, 64, 32, 16, 8, 4, 2, 1}[bit%8]
			if was := want[n].Bytes[bit/8]; was&worth == 0 {
				want[n].Bytes[bit/8] = was + worth
			} else {
				want[n].Bytes[bit/8] = was - worth
			}
			has(t, fmt.Sprintf("bit %d of %d turned", bit, n), l, 1, 2, want...)
			for _, x := range neighbours() {
				has(t, "another pair", l, x.From, x.To, x)
			}
			delivers(t, l, 1, 2, 9, n, want[n].Bytes...)
		}
	}
}

// P12.4: the first and the last bit, one ahead and one behind, of bytes of all lengths.
func TestCorruptAtTheEdges(t *testing.T) {
	for _, size := range []int{1, 2, 3, 31, 32, 33, 255, 256, 257, 399, 400} {
		l := with(t, fly(1, 2, 3, fill(2, 400)...), fly(1, 2, 3, make([]byte, size)...), fly(1, 2, 3, fill(3, 400)...))
		for _, bit := range []int{math.MinInt, math.MinInt + 1, math.MinInt + 8, -1 << 32, -8*size - 1, -8 * size, -9, -8, -7, -1, 8 * size, 8*size + 1, 8*size + 7, 8*size + 8, 16 * size, 1 << 32, 1 << 60, 1 << 61, math.MaxInt - 7, math.MaxInt - 1, math.MaxInt} {
			refuses(t, fmt.Sprintf("bit %d of %d bytes", bit, size), l, api.ErrArg, func() api.Errno { return l.Corrupt(1, 2, 1, bit) })
		}
		answers(t, "the first bit", l.Corrupt(1, 2, 1, 0), api.OK)
		answers(t, "the last bit", l.Corrupt(1, 2, 1, 8*size-1), api.OK)
		want := make([]byte, size)
		want[0], want[size-1] = 0x80, want[size-1]+1
		if size == 1 {
			want[0] = 0x81
		}
		has(t, fmt.Sprint(size, " bytes turned"), l, 1, 2, fly(1, 2, 3, fill(2, 400)...), fly(1, 2, 3, want...), fly(1, 2, 3, fill(3, 400)...))
	}
}

// P12.4: a doubled flight's bits are its own, be it or what it was doubled of that is turned; so are those of the double's double.
func TestBitsOfADouble(t *testing.T) {
	for turn := range 3 {
		l := with(t, fly(1, 2, 3, 0, 0))
		answers(t, "Double", l.Double(1, 2, 0), api.OK)
		answers(t, "Double of the double", l.Double(1, 2, 1), api.OK)
		want := [3][2]byte{}
		for k, bit := range []int{0, 9, 0, 15} {
			answers(t, "Corrupt", l.Corrupt(1, 2, turn, bit), api.OK)
			want[turn][bit/8] ^= 128 >> (bit % 8)
			has(t, fmt.Sprintf("%d turned, %d", turn, k), l, 1, 2, fly(1, 2, 3, want[0][:]...), fly(1, 2, 3, want[1][:]...), fly(1, 2, 3, want[2][:]...))
		}
		answers(t, "Double of a turned one", l.Double(1, 2, turn), api.OK)
		if got := told(t, l, 1, 2); !alike(got[3], got[turn]) {
			t.Errorf("the double of a turned one: %s", short(got))
		}
	}
}

// P12.4: numbers that no flight of the pair has, and pairs that have none or are none of nodes; with each of the calls, and bits that there are and are not.
func TestNumbersThatThereAreNot(t *testing.T) {
	ask := func(l *link.Links, from, to, n int) {
		t.Helper()
		what := fmt.Sprintf("(%d, %d, %d)", from, to, n)
		refuses(t, "Lose"+what, l, api.ErrNone, func() api.Errno { return l.Lose(from, to, n) })
		refuses(t, "Double"+what, l, api.ErrNone, func() api.Errno { return l.Double(from, to, n) })
		for _, bit := range []int{math.MinInt, -1, 0, 1, 8, 3200, math.MaxInt} {
			answers(t, "Corrupt"+what, l.Corrupt(from, to, n, bit), api.ErrNone)
		}
		refuses(t, "Corrupt"+what, l, api.ErrNone, func() api.Errno { return l.Corrupt(from, to, n, 0) })
	}
	l := with(t, slices.Concat(five(), neighbours(), neighbours())...)
	for _, n := range wrongNumbers(5) {
		ask(l, 1, 2, n)
	}
	for _, n := range wrongNumbers(2) {
		ask(l, 2, 1, n)
	}
	for _, p := range append(noPairs(), [2]int{4, 1}, [2]int{1, 4}, [2]int{6, 5}) {
		for _, n := range []int{-1, 0, 1, math.MaxInt} {
			ask(l, p[0], p[1], n)
		}
	}
}

// P12.4, R2: no such number goes ahead of no room, and of no such bit; no room keeps nobody from losing and turning.
func TestChangesOfFullLinks(t *testing.T) {
	for _, over := range []int{1, 30} {
		l := full(t, over)
		size := len(told(t, l, 1, 2))
		for _, n := range []int{math.MinInt, -1, size, size + 1, math.MaxInt} {
			answers(t, "Double of no number", l.Double(1, 2, n), api.ErrNone)
			answers(t, "Corrupt of no number", l.Corrupt(1, 2, n, -1), api.ErrNone)
			answers(t, "Lose of no number", l.Lose(1, 2, n), api.ErrNone)
		}
		for _, n := range []int{0, 1, size - 1} {
			refuses(t, "Double", l, api.ErrFull, func() api.Errno { return l.Double(1, 2, n) })
		}
		answers(t, "Corrupt of no bit", l.Corrupt(1, 2, 0, 8), api.ErrArg)
		answers(t, "Corrupt", l.Corrupt(1, 2, size-1, 0), api.OK)
		answers(t, "Lose", l.Lose(1, 2, size-1), api.OK)
		if l.Len() != 511 {
			t.Errorf("Len: %d", l.Len())
		}
	}
}
