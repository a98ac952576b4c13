package pieces_test

import (
	"fmt"
	"slices"
	"testing"

	"heliograph/api"
	"heliograph/pieces"
)

// orders tells each order of a list.
func orders(l []api.Bundle, tell func([]api.Bundle)) {
	var rest func(done int)
	rest = func(done int) {
		if done == len(l) {
			tell(l)
			return
		}
		for i := done; i < len(l); i++ {
			l[done], l[i] = l[i], l[done]
			rest(done + 1)
			l[done], l[i] = l[i], l[done]
		}
	}
	rest(0)
}

// P18.3: nothing but the whole bundle, once or more often.
func TestJoinOfTheWholeOne(t *testing.T) {
	for what, b := range fine() {
		want := answer{b: b}
		if len(b.Payload) != b.Total {
			want = answer{e: api.ErrNone}
		}
		for n := 1; n < 4; n++ {
			wants(t, fmt.Sprint(what, ", ", n, " times"), ofJoin(pieces.Join(slices.Repeat([]api.Bundle{b}, n))), want)
		}
	}
}

// P18.3: all pieces in every order, each once, and one of them doubled.
func TestJoinInEachOrder(t *testing.T) {
	b := whole(17)
	for n := 3; n <= 17; n++ {
		cut, _ := pieces.Cut(b, n)
		for twice := range cut {
			orders(append(deep(cut), cut[twice]), func(l []api.Bundle) {
				wants(t, fmt.Sprint("by ", n), ofJoin(pieces.Join(l)), answer{b: b})
			})
		}
		orders(deep(cut), func(l []api.Bundle) {
			wants(t, fmt.Sprint("by ", n), ofJoin(pieces.Join(l)), answer{b: b})
			wants(t, fmt.Sprint("by ", n, " again"), ofJoin(pieces.Join(append(slices.Clone(l), l...))), answer{b: b})
		})
	}
}

// P18.3: pieces of unlike sizes over one another, within one another, and the whole one among them, in every order.
func TestJoinOfUnlikeSizes(t *testing.T) {
	b := whole(300)
	for what, l := range map[string][]api.Bundle{
		"over one another":      {part(b, 0, 100), part(b, 50, 130), part(b, 179, 100), part(b, 200, 100)},
		"one beside the others": {part(b, 0, 260), part(b, 255, 4), part(b, 256, 44)},
		"within":                {part(b, 0, 299), part(b, 299, 1), part(b, 10, 10), part(b, 15, 30)},
		"side by side":          {part(b, 0, 1), part(b, 1, 2), part(b, 3, 250), part(b, 253, 47)},
		"with the whole one":    {part(b, 0, 3), b, part(b, 277, 23)},
		"all but the first":     {part(b, 1, 299), part(b, 0, 1)},
	} {
		orders(l, func(l []api.Bundle) {
			wants(t, what, ofJoin(pieces.Join(l)), answer{b: b})
			wants(t, what, ofMissing(pieces.Missing(l)), answer{})
		})
	}
}

// P18.3: Hops is the greatest of the list, at whatever place, also of one whose bytes others have; also where all are 0.
func TestJoinTakesTheGreatestHops(t *testing.T) {
	b := whole(50)
	cut, _ := pieces.Cut(b, 10)
	cut = append(cut, part(b, 3, 30), b)
	for _, least := range []int{0, 3} {
		for i := range cut {
			for hops := least; hops <= b.HopLimit; hops++ {
				l := deep(cut)
				for j := range l {
					l[j].Hops = min(least, j)
				}
				l[i].Hops = hops
				want := b
				want.Hops = hops
				wants(t, fmt.Sprint("Hops ", hops, " at ", i), ofJoin(pieces.Join(l)), answer{b: want})
			}
		}
	}
	rising := deep(cut)
	for i := range rising {
		rising[i].Hops = 2 * i
	}
	want := b
	want.Hops = 2 * (len(cut) - 1)
	wants(t, "rising", ofJoin(pieces.Join(rising)), answer{b: want})
	slices.Reverse(rising)
	wants(t, "falling", ofJoin(pieces.Join(rising)), answer{b: want})
}

// P18.3: one piece gone, at each place, in pieces of each size; and one that nobody needs.
func TestJoinWithOneGone(t *testing.T) {
	for _, b := range []api.Bundle{example(), whole(64), whole(most)} {
		for _, n := range []int{1, 2, 3, 7, 33, 199, 256} {
			cut, _ := pieces.Cut(b, n)
			for i := range cut {
				l := slices.Delete(slices.Clone(cut), i, i+1)
				what := fmt.Sprint(b.Total, " by ", n, " without ", i)
				if len(l) == 0 {
					refuses(t, what, ofJoin(pieces.Join(l)), api.ErrPieces)
					continue
				}
				refuses(t, what, ofJoin(pieces.Join(l)), api.ErrNone)
				wants(t, what, ofMissing(pieces.Missing(l)), answer{m: []api.Claim{{At: cut[i].Offset, N: len(cut[i].Payload)}}})
				wants(t, what+", but the whole one", ofJoin(pieces.Join(append(l, b))), answer{b: b})
			}
		}
	}
}

// P18.3: a list that does not go together and has a gap, too: the first error is told.
func TestJoinOfTwoErrors(t *testing.T) {
	b := whole(70)
	for what, l := range map[string][]api.Bundle{
		"another byte":      {part(b, 10, 10), changed(part(b, 10, 10), func(b *api.Bundle) { b.Payload[9]++ })},
		"another Seq":       {part(b, 0, 10), changed(part(b, 10, 10), func(b *api.Bundle) { b.Seq++ })},
		"another Lifetime":  {part(b, 0, 10), part(b, 60, 10), changed(part(b, 20, 10), func(b *api.Bundle) { b.Lifetime++ })},
		"one may not be":    {part(b, 0, 10), changed(part(b, 10, 10), func(b *api.Bundle) { b.Priority = 3 })},
		"alone, may not be": {changed(part(b, 10, 10), func(b *api.Bundle) { b.Dest = 0 })},
		"a greater Total":   {part(b, 0, 10), changed(part(b, 10, 10), func(b *api.Bundle) { b.Total = 71 })},
	} {
		if got := toldJoin(l); got.e != api.ErrPieces {
			t.Fatal(what, got)
		}
		orders(l, func(l []api.Bundle) {
			refuses(t, what, ofJoin(pieces.Join(l)), api.ErrPieces)
			refuses(t, what, ofMissing(pieces.Missing(l)), api.ErrPieces)
		})
	}
}

// P18.3: what all have, the whole one has: nothing of a piece but Hops, its bytes and its place is lost.
func TestJoinKeepsAllElse(t *testing.T) {
	for what, f := range fields() {
		b := changed(whole(390), func(b *api.Bundle) { f(b) })
		if b.Total != 390 {
			b.Payload = fill(1, b.Total)
		}
		cut, e := pieces.Cut(b, 100)
		if e != api.OK {
			t.Fatal(what, e)
		}
		slices.Reverse(cut)
		wants(t, what, ofJoin(pieces.Join(cut)), answer{b: b})
	}
}
