package pieces_test

import (
	"fmt"
	"math"
	"slices"
	"testing"

	"heliograph/api"
	"heliograph/bundle"
)

// P18.2: two that part in one field, each by itself, whole ones and pieces, apart and over one another; both may be.
func TestTogetherOfOtherFields(t *testing.T) {
	b := whole(390)
	for what, f := range fields() {
		for where, l := range map[string][]api.Bundle{
			"apart": {part(b, 3, 20), part(b, 100, 30)}, "side by side": {part(b, 3, 20), part(b, 23, 30)}, "over one another": {part(b, 3, 20), part(b, 10, 30)}, "one and itself": {part(b, 3, 20), part(b, 3, 20)},
		} {
			both(t, where, l[0], l[1], true)
			other := changed(l[1], f)
			if bundle.Check(other) != api.OK {
				t.Fatalf("%s: %+v may not be", what, other)
			}
			both(t, what+" "+where, l[0], other, false)
			both(t, what+" of both, "+where, changed(l[0], f), other, true)
			asks(t, what+" "+where, []api.Bundle{l[0], other})
		}
	}
}

// P18.2: two that part in Offset, in Payload or in Hops alone.
func TestTogetherOfFieldsThatMayDiffer(t *testing.T) {
	b := whole(390)
	p := part(b, 30, 40)
	for hops := range p.HopLimit + 1 {
		both(t, fmt.Sprint("Hops ", hops), p, changed(p, func(b *api.Bundle) { b.Hops = hops }), true)
		both(t, fmt.Sprint("Hops ", hops, ", whole"), b, changed(b, func(b *api.Bundle) { b.Hops = hops }), true)
	}
	both(t, "Hops beyond HopLimit", p, changed(p, func(b *api.Bundle) { b.Hops = b.HopLimit + 1 }), false)
	for at := range b.Total - len(p.Payload) + 1 {
		// The bytes of fill are no two alike within 40, so that with an Offset alone the common bytes differ.
		other := changed(p, func(b *api.Bundle) { b.Offset = at })
		both(t, fmt.Sprint("Offset ", at), p, other, at == 30 || at <= 30-40 || at >= 30+40)
	}
	for n := 1; n <= b.Total-30; n++ {
		both(t, fmt.Sprint("Payload of ", n), p, part(b, 30, n), true)
	}
	for i := range p.Payload {
		both(t, fmt.Sprint("another byte at ", i), p, changed(p, func(b *api.Bundle) { b.Payload[i]++ }), false)
	}
	even := changed(p, func(b *api.Bundle) { b.Payload = slices.Repeat([]byte{7}, 40) })
	for at := range b.Total - 40 + 1 {
		both(t, fmt.Sprint("all bytes alike, Offset ", at), even, changed(even, func(b *api.Bundle) { b.Offset = at }), true)
	}
}

// P18.2: all pairs of pieces of a bundle, with the same bytes, and with another one at each place of the second one: that tells only where both have it.
func TestTogetherOfEachPair(t *testing.T) {
	l := parts(whole(9))
	for _, a := range l {
		for _, b := range l {
			both(t, "the same bytes", a, b, true)
			for i := range b.Payload {
				at := b.Offset + i
				has := at >= a.Offset && at < a.Offset+len(a.Payload)
				both(t, fmt.Sprint("another byte at ", at), a, changed(b, func(b *api.Bundle) { b.Payload[i] ^= 1 << (at % 8) }), !has)
			}
		}
	}
}

// P18.2: greater pieces over one another, with another byte at the first, at the last and at a middle place of what both have, and just beside it.
func TestTogetherOverOneAnother(t *testing.T) {
	b := whole(most)
	for _, x := range []struct{ a, an, b, bn, from, to int }{
		{0, 300, 100, 300, 100, 300}, {0, 257, 256, 144, 256, 257}, {50, 300, 120, 9, 120, 129}, {0, 400, 0, 400, 0, 400}, {0, 400, 399, 1, 399, 400}, {0, 1, 0, 400, 0, 1}, {10, 20, 10, 30, 10, 30}, {10, 30, 20, 20, 20, 40},
	} {
		p, q := part(b, x.a, x.an), part(b, x.b, x.bn)
		both(t, text(x), p, q, true)
		for at := x.b; at < x.b+x.bn; at++ {
			has := at >= x.a && at < x.a+x.an
			if has != (at >= x.from && at < x.to) && x.an > 20 {
				t.Fatal(x, at)
			}
			for bit := range 8 {
				other := changed(q, func(b *api.Bundle) { b.Payload[at-b.Offset] ^= 1 << bit })
				both(t, fmt.Sprint(text(x), " at ", at), p, other, !has)
			}
		}
	}
}

// P18.2: bytes that are 0 are bytes, too.
func TestTogetherOfNoughts(t *testing.T) {
	zero := changed(whole(10), func(b *api.Bundle) { clear(b.Payload) })
	both(t, "noughts", zero, part(zero, 4, 3), true)
	for i := range 10 {
		other := changed(zero, func(b *api.Bundle) { b.Payload[i] = 1 })
		both(t, fmt.Sprint("no nought at ", i), zero, other, false)
		for j := range 10 {
			both(t, fmt.Sprint("no nought at ", i, ", but at ", j), other, part(zero, j, 1), i != j)
			both(t, fmt.Sprint("a nought at ", i, ", but at ", j), zero, part(other, j, 1), i != j)
		}
	}
}

// P18.2: one with itself goes together where it may be, and does not where it may not; of one that may not be at either side neither.
func TestTogetherOfWhatMayNotBe(t *testing.T) {
	for what, b := range fine() {
		both(t, what, b, b, true)
		both(t, what, b, deep([]api.Bundle{b})[0], true)
	}
	p, q := part(whole(120), 40, 30), whole(12)
	for what, b := range wrong() {
		both(t, what, b, b, false)
		both(t, what, b, deep([]api.Bundle{b})[0], false)
		for _, x := range []api.Bundle{p, q, part(whole(120), 0, 10), part(whole(120), 70, 50), whole(120), example()} {
			both(t, what, b, x, false)
		}
	}
	if bundle.Check(p) != api.OK || bundle.Check(q) != api.OK {
		t.Error("what may be may not be")
	}
}

// P18.2: Together by chance, held against what is told once more.
func TestTogetherHeld(t *testing.T) {
	d := chance(2)
	did := map[bool]int{}
	for range 20000 {
		b := d.whole(1 + d.IntN(20))
		x, y := d.part(b), d.part(b)
		switch d.IntN(6) {
		case 0:
			y.Payload[d.IntN(len(y.Payload))] ^= 1 << d.IntN(8)
		case 1:
			y.Offset = d.IntN(b.Total)
		case 2:
			y.Dest = 1 + d.IntN(6)
		case 3:
			y.Lifetime = 1 + y.Lifetime%api.MaxTick
		}
		want := toldTogether(x, y)
		did[want]++
		both(t, "by chance", x, y, want)
	}
	if did[true] < 2000 || did[false] < 2000 {
		t.Error(did)
	}
}

// R1: every call ends, and none panics, whatever it is handed.
func TestTogetherOfWhateverIsHanded(t *testing.T) {
	wild := []api.Bundle{
		{Source: math.MinInt, Dest: math.MaxInt, Seq: 1, Created: math.MaxInt, Lifetime: math.MaxInt, HopLimit: math.MinInt, Hops: math.MaxInt, Priority: math.MinInt, Offset: math.MaxInt, Total: math.MinInt, Payload: make([]byte, 1<<20)},
		{Source: 1, Dest: 2, Seq: 1, Lifetime: 1, HopLimit: 1, Offset: math.MaxInt, Total: math.MaxInt, Payload: []byte{1}},
		{Source: 1, Dest: 2, Seq: 1, Lifetime: 1, HopLimit: 1, Offset: math.MinInt, Total: 400, Payload: []byte{1}},
		{Source: 1, Dest: 2, Seq: 1, Lifetime: 1, HopLimit: 1, Offset: 0, Total: math.MinInt, Payload: []byte{1}},
		{Source: 1, Dest: 2, Seq: 1, Lifetime: 1, HopLimit: 1, Offset: math.MaxInt, Total: 400, Payload: fill(3, 400)},
		{},
	}
	for _, a := range wild {
		for _, b := range append(wild, whole(7)) {
			both(t, "wild", a, b, false)
			asks(t, "wild", []api.Bundle{a, b})
			asks(t, "wild", []api.Bundle{b, a, b})
		}
	}
}
