package pieces_test

import (
	"bytes"
	"fmt"
	"math"
	"testing"

	"heliograph/api"
	"heliograph/bundle"
	"heliograph/pieces"
)

// P18.1: the numbers of package api are those that the chapter and its limits say.
func TestNumbers(t *testing.T) {
	if api.ErrPieces != 280 || api.ErrBundle != 190 || api.ErrArg != 2 || api.ErrNone != 4 || api.MaxPayload != most {
		t.Error("a number of package api is another one than the document says")
	}
}

// P18.1 to P18.3: the chapter's examples.
func TestExamples(t *testing.T) {
	b := example()
	l, e := pieces.Cut(b, 2)
	wants(t, "Cut(b, 2)", ofCut(l, e), answer{l: []api.Bundle{part(b, 0, 2), part(b, 2, 2), part(b, 4, 1)}})
	if len(l) != 3 || !bytes.Equal(l[0].Payload, []byte{5, 6}) || !bytes.Equal(l[1].Payload, []byte{7, 8}) || !bytes.Equal(l[2].Payload, []byte{9}) {
		t.Fatal(l)
	}
	ends := []api.Bundle{l[0], l[2]}
	wants(t, "Missing of the ends", ofMissing(pieces.Missing(ends)), answer{m: []api.Claim{{At: 2, N: 2}}})
	refuses(t, "Join of the ends", ofJoin(pieces.Join(ends)), api.ErrNone)
	wants(t, "Join of all", ofJoin(pieces.Join([]api.Bundle{l[2], l[0], l[1]})), answer{b: b})
	refuses(t, "Join of none", ofJoin(pieces.Join(nil)), api.ErrPieces)
	other := changed(b, func(b *api.Bundle) { b.Seq = 2 })
	refuses(t, "Join with another Seq", ofJoin(pieces.Join([]api.Bundle{b, other})), api.ErrPieces)
	refuses(t, "Cut(b, 0)", ofCut(pieces.Cut(b, 0)), api.ErrArg)
}

// P18.1: each number of bytes, from 1 to more than the payload has, of whole bundles and of pieces.
func TestCut(t *testing.T) {
	for what, b := range fine() {
		for n := 1; n <= len(b.Payload)+2; n++ {
			if n > 40 && n < len(b.Payload)-40 && n%17 > 0 {
				continue
			}
			got := ofCut(pieces.Cut(b, n))
			wants(t, fmt.Sprint(what, " by ", n), got, toldCut(b, n))
			if len(got.l) != (len(b.Payload)+n-1)/n {
				t.Errorf("%s by %d: %d pieces", what, n, len(got.l))
			}
			for i, p := range got.l {
				if bundle.Check(p) != api.OK || p.Offset != b.Offset+i*n || i < len(got.l)-1 && len(p.Payload) != n {
					t.Errorf("%s by %d: the piece %d is %+v", what, n, i, p)
				}
			}
		}
	}
}

// P18.1: a bundle with at most n bytes is the one piece, whatever n is; one fewer makes two.
func TestCutInOne(t *testing.T) {
	for what, b := range fine() {
		k := len(b.Payload)
		for _, n := range []int{k, k + 1, 2 * k, 2*k + 1, 255 + k, 256 + k, 1<<31 - 1, 1 << 31, 1<<32 - 1, 1 << 32, 1<<32 + 1, 1 << 62, math.MaxInt - k, math.MaxInt - 1, math.MaxInt} {
			wants(t, fmt.Sprint(what, " by ", n), ofCut(pieces.Cut(b, n)), answer{l: []api.Bundle{b}})
		}
		if k > 1 {
			first, last := b, b
			first.Payload, last.Payload, last.Offset = b.Payload[:k-1], b.Payload[k-1:], b.Offset+k-1
			wants(t, what+" by one fewer", ofCut(pieces.Cut(b, k-1)), answer{l: []api.Bundle{first, last}})
		}
	}
}

// P18.1: n below 1.
func TestCutBelowOne(t *testing.T) {
	for what, b := range fine() {
		for _, n := range []int{0, -1, -2, -len(b.Payload), -256, -1 << 31, -1<<32 + 1, 1 - 1<<40, math.MinInt + 1, math.MinInt} {
			refuses(t, fmt.Sprint(what, " by ", n), ofCut(pieces.Cut(b, n)), api.ErrArg)
		}
	}
}

// P18.1: a bundle that may not be, whatever n is: that goes ahead of what is wrong with n.
func TestCutOfWhatMayNotBe(t *testing.T) {
	for what, b := range wrong() {
		if bundle.Check(b) != api.ErrBundle {
			t.Fatalf("%s may be", what)
		}
		for _, n := range []int{1, 2, 30, most, math.MaxInt, 0, -1, math.MinInt} {
			refuses(t, fmt.Sprint(what, " by ", n), ofCut(pieces.Cut(b, n)), api.ErrBundle)
		}
	}
}

// P18.1: the pieces of a piece stand behind its own Offset.
func TestCutOfAPiece(t *testing.T) {
	b := whole(most)
	for _, at := range []int{0, 1, 2, 99, 255, 256, 257, 380} {
		p := part(b, at, 20)
		wants(t, fmt.Sprint("from ", at), ofCut(pieces.Cut(p, 7)), answer{l: []api.Bundle{part(b, at, 7), part(b, at+7, 7), part(b, at+14, 6)}})
		wants(t, fmt.Sprint("from ", at, " in one"), ofCut(pieces.Cut(p, 20)), answer{l: []api.Bundle{p}})
		wants(t, fmt.Sprint("from ", at, " in halves"), ofCut(pieces.Cut(p, 10)), answer{l: []api.Bundle{part(b, at, 10), part(b, at+10, 10)}})
	}
}

// P18.1: Cut by chance, held against what is told once more.
func TestCutHeld(t *testing.T) {
	d := chance(1)
	for range 2000 {
		b := d.whole(1 + d.IntN(most))
		if d.IntN(2) == 0 {
			b = d.part(b)
		}
		if d.IntN(20) == 0 {
			b.Hops = b.HopLimit + 1
		}
		n := d.IntN(2*len(b.Payload)+2) - 1
		wants(t, fmt.Sprint("by ", n), ofCut(pieces.Cut(b, n)), toldCut(b, n))
	}
}
