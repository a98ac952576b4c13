package pieces_test

import (
	"fmt"
	"slices"
	"testing"

	"heliograph/api"
	"heliograph/pieces"
)

// P18.2, P18.3: a list of none does not go together; nil and empty are one.
func TestMissingOfNone(t *testing.T) {
	for _, l := range [][]api.Bundle{nil, {}, parts(whole(3))[:0]} {
		refuses(t, "Missing", ofMissing(pieces.Missing(l)), api.ErrPieces)
		refuses(t, "Join", ofJoin(pieces.Join(l)), api.ErrPieces)
	}
}

// P18.2: one bundle alone: a whole one misses nothing, a piece what is ahead of it and what is behind it.
func TestMissingOfOne(t *testing.T) {
	for what, b := range fine() {
		var want []api.Claim
		if b.Offset > 0 {
			want = append(want, api.Claim{At: 0, N: b.Offset})
		}
		if end := b.Offset + len(b.Payload); end < b.Total {
			want = append(want, api.Claim{At: end, N: b.Total - end})
		}
		wants(t, what, ofMissing(pieces.Missing([]api.Bundle{b})), answer{m: want})
		wants(t, what+" twice", ofMissing(pieces.Missing([]api.Bundle{b, b})), answer{m: want})
	}
	b := whole(390)
	wants(t, "the front", ofMissing(pieces.Missing([]api.Bundle{part(b, 0, 100)})), answer{m: []api.Claim{{At: 100, N: 290}}})
	wants(t, "the midst", ofMissing(pieces.Missing([]api.Bundle{part(b, 100, 200)})), answer{m: []api.Claim{{At: 0, N: 100}, {At: 300, N: 90}}})
	wants(t, "the end", ofMissing(pieces.Missing([]api.Bundle{part(b, 389, 1)})), answer{m: []api.Claim{{At: 0, N: 389}}})
	wants(t, "the only byte", ofMissing(pieces.Missing([]api.Bundle{whole(1)})), answer{})
}

// P18.2: gaps of one byte and of many, at the front, in the midst and at the end.
func TestMissingOfGaps(t *testing.T) {
	b := whole(300)
	for what, x := range map[string]struct {
		l    []api.Bundle
		want []api.Claim
	}{
		"one at the front":            {[]api.Bundle{part(b, 1, 299)}, []api.Claim{{At: 0, N: 1}}},
		"one at the end":              {[]api.Bundle{part(b, 0, 299)}, []api.Claim{{At: 299, N: 1}}},
		"one in the midst":            {[]api.Bundle{part(b, 0, 150), part(b, 151, 149)}, []api.Claim{{At: 150, N: 1}}},
		"many at the front":           {[]api.Bundle{part(b, 260, 40)}, []api.Claim{{At: 0, N: 260}}},
		"many at the end":             {[]api.Bundle{part(b, 0, 40)}, []api.Claim{{At: 40, N: 260}}},
		"many in the midst":           {[]api.Bundle{part(b, 270, 30), part(b, 0, 9)}, []api.Claim{{At: 9, N: 261}}},
		"one of each":                 {[]api.Bundle{part(b, 1, 149), part(b, 151, 148)}, []api.Claim{{At: 0, N: 1}, {At: 150, N: 1}, {At: 299, N: 1}}},
		"many of each":                {[]api.Bundle{part(b, 220, 30), part(b, 50, 30)}, []api.Claim{{At: 0, N: 50}, {At: 80, N: 140}, {At: 250, N: 50}}},
		"side by side":                {[]api.Bundle{part(b, 100, 50), part(b, 50, 50)}, []api.Claim{{At: 0, N: 50}, {At: 150, N: 150}}},
		"over one another":            {[]api.Bundle{part(b, 50, 60), part(b, 100, 50)}, []api.Claim{{At: 0, N: 50}, {At: 150, N: 150}}},
		"one within another":          {[]api.Bundle{part(b, 50, 100), part(b, 70, 3)}, []api.Claim{{At: 0, N: 50}, {At: 150, N: 150}}},
		"one within another, first":   {[]api.Bundle{part(b, 70, 3), part(b, 50, 100)}, []api.Claim{{At: 0, N: 50}, {At: 150, N: 150}}},
		"within at the front":         {[]api.Bundle{part(b, 50, 100), part(b, 50, 1)}, []api.Claim{{At: 0, N: 50}, {At: 150, N: 150}}},
		"within at the end":           {[]api.Bundle{part(b, 50, 100), part(b, 149, 1)}, []api.Claim{{At: 0, N: 50}, {At: 150, N: 150}}},
		"doubled":                     {[]api.Bundle{part(b, 50, 100), part(b, 50, 100), part(b, 50, 100)}, []api.Claim{{At: 0, N: 50}, {At: 150, N: 150}}},
		"a whole one ahead":           {[]api.Bundle{b, part(b, 50, 100)}, nil},
		"a whole one behind":          {[]api.Bundle{part(b, 50, 100), b}, nil},
		"all but the first, in three": {[]api.Bundle{part(b, 200, 100), part(b, 1, 120), part(b, 90, 130)}, []api.Claim{{At: 0, N: 1}}},
	} {
		wants(t, what, ofMissing(pieces.Missing(x.l)), answer{m: x.want})
		slices.Reverse(x.l)
		wants(t, what+", turned", ofMissing(pieces.Missing(x.l)), answer{m: x.want})
	}
}

// P18.2: each choice of bytes that are there, in pieces of one byte, in either order, and in pieces as long as can be.
func TestMissingOfEachChoice(t *testing.T) {
	const n = 11
	b := whole(n)
	for choice := 1; choice < 1<<n; choice++ {
		var l, long []api.Bundle
		for at := range n {
			if choice>>at&1 == 0 {
				continue
			}
			l = append(l, part(b, at, 1))
			if at == 0 || choice>>(at-1)&1 == 0 {
				long = append(long, part(b, at, 1))
			} else {
				long[len(long)-1].Payload = append(long[len(long)-1].Payload, b.Payload[at])
			}
		}
		want := toldMissing(l)
		wants(t, fmt.Sprintf("%b", choice), ofMissing(pieces.Missing(l)), want)
		wants(t, fmt.Sprintf("%b, long", choice), ofMissing(pieces.Missing(long)), want)
		slices.Reverse(l)
		wants(t, fmt.Sprintf("%b, turned", choice), ofMissing(pieces.Missing(l)), want)
	}
}

// P18.2, P18.3: each list of three pieces of a bundle, the same one at several places, too.
func TestMissingOfEachThree(t *testing.T) {
	all := parts(whole(6))
	for _, a := range all {
		for _, b := range all {
			for _, c := range all {
				l := []api.Bundle{a, b, c}
				wants(t, "Missing", ofMissing(pieces.Missing(l)), toldMissing(l))
				wants(t, "Join", ofJoin(pieces.Join(l)), toldJoin(l))
			}
		}
	}
}

// unfit are lists of seven in which just two do not go together, for one reason, at whatever places; all else is there, or something is missing.
func unfit() map[string][]api.Bundle {
	b := whole(70)
	good := []api.Bundle{part(b, 0, 10), part(b, 10, 10), part(b, 20, 10), part(b, 30, 10), part(b, 40, 10), part(b, 50, 10), part(b, 60, 10)}
	out := map[string][]api.Bundle{}
	for i := range good {
		for j := range good {
			if i == j {
				continue
			}
			for _, at := range []int{0, 4, 9} {
				// What stands at j is of the bytes of i, but for one: of all others nobody has that byte.
				l := deep(good)
				l[j] = changed(l[i], func(b *api.Bundle) { b.Payload[at] ^= 4 })
				out[fmt.Sprint(i, " and ", j, ", byte ", at)] = l
				long := deep(good)
				long[j] = changed(b, func(b *api.Bundle) { b.Payload[10*i+at] ^= 4 })
				out[fmt.Sprint(i, " and the whole one at ", j, ", byte ", at)] = long
			}
		}
		out[fmt.Sprint("another Dest at ", i)] = change(good, i, func(b *api.Bundle) { b.Dest++ })
		out[fmt.Sprint("another Total at ", i)] = change(good, i, func(b *api.Bundle) { b.Total++ })
		out[fmt.Sprint("another Created at ", i)] = change(good, i, func(b *api.Bundle) { b.Created-- })
		out[fmt.Sprint("another Priority at ", i)] = change(good, i, func(b *api.Bundle) { b.Priority = 0 })
	}
	return out
}

// change is a list with something done to the bundle at i.
func change(l []api.Bundle, i int, f func(b *api.Bundle)) []api.Bundle {
	l = deep(l)
	f(&l[i])
	return l
}

// P18.2, P18.3: a list in which just two do not go together, at whatever places, whether something is missing or not.
func TestMissingOfWhatDoesNotGoTogether(t *testing.T) {
	for what, l := range unfit() {
		if goes(l) {
			t.Fatalf("%s: goes together", what)
		}
		refuses(t, what+": Missing", ofMissing(pieces.Missing(l)), api.ErrPieces)
		refuses(t, what+": Join", ofJoin(pieces.Join(l)), api.ErrPieces)
		l = append(slices.Clone(l), whole(70))
		refuses(t, what+" with the whole one: Missing", ofMissing(pieces.Missing(l)), api.ErrPieces)
		refuses(t, what+" with the whole one: Join", ofJoin(pieces.Join(l)), api.ErrPieces)
	}
}

// P18.2, P18.3: a list with one that may not be, at each place, and alone.
func TestMissingOfWhatMayNotBe(t *testing.T) {
	b := whole(120)
	good := []api.Bundle{part(b, 0, 40), part(b, 40, 30), part(b, 70, 50)}
	for what, x := range wrong() {
		refuses(t, what+": Missing", ofMissing(pieces.Missing([]api.Bundle{x})), api.ErrPieces)
		refuses(t, what+": Join", ofJoin(pieces.Join([]api.Bundle{x})), api.ErrPieces)
		for i := range len(good) + 1 {
			for _, l := range [][]api.Bundle{slices.Insert(slices.Clone(good), i, x), slices.Insert(slices.Clone(good[:2]), min(i, 2), x)} {
				refuses(t, fmt.Sprint(what, " at ", i, ": Missing"), ofMissing(pieces.Missing(l)), api.ErrPieces)
				refuses(t, fmt.Sprint(what, " at ", i, ": Join"), ofJoin(pieces.Join(l)), api.ErrPieces)
			}
		}
	}
}

// P18.2, R1: a list may be long.
func TestMissingOfVeryMany(t *testing.T) {
	b := whole(most)
	cut, e := pieces.Cut(b, 1)
	if e != api.OK {
		t.Fatal(e)
	}
	l := slices.Repeat(append(cut[:17:17], cut[18:]...), 500)
	wants(t, "very many", ofMissing(pieces.Missing(l)), answer{m: []api.Claim{{At: 17, N: 1}}})
	refuses(t, "very many", ofJoin(pieces.Join(l)), api.ErrNone)
	l = append(l, cut[17])
	wants(t, "and the one", ofMissing(pieces.Missing(l)), answer{})
	wants(t, "and the one", ofJoin(pieces.Join(l)), answer{b: b})
	l = append(l, changed(cut[399], func(b *api.Bundle) { b.Payload[0]++ }))
	refuses(t, "and a wrong one", ofMissing(pieces.Missing(l)), api.ErrPieces)
	refuses(t, "and a wrong one", ofJoin(pieces.Join(l)), api.ErrPieces)
	refuses(t, "zeros", ofMissing(pieces.Missing(make([]api.Bundle, 1<<18))), api.ErrPieces)
}
