package pieces_test

import (
	"fmt"
	"testing"

	"heliograph/api"
	"heliograph/bundle"
	"heliograph/pieces"
)

// cutAgain cuts some pieces of a list again, as often as chance has it.
func (d dice) cutAgain(t *testing.T, l []api.Bundle, turns int) []api.Bundle {
	t.Helper()
	for range turns {
		var out []api.Bundle
		for _, b := range l {
			if d.IntN(2) == 0 {
				out = append(out, b)
				continue
			}
			cut, e := pieces.Cut(b, 1+d.IntN(len(b.Payload)))
			if e != api.OK {
				t.Fatal(e)
			}
			out = append(out, cut...)
		}
		l = out
	}
	return l
}

// P18.4: Join of Cut is the bundle, in whatever order and however often each piece, pieces cut again among them; what Cut tells may be.
func TestJoinOfCut(t *testing.T) {
	d := chance(4)
	for i := range 1500 {
		b := d.whole(1 + d.IntN(most))
		cut, e := pieces.Cut(b, 1+d.IntN(len(b.Payload)+2))
		if e != api.OK {
			t.Fatal(e)
		}
		l := d.shuffled(d.cutAgain(t, cut, i%4))
		for _, p := range l {
			if bundle.Check(p) != api.OK {
				t.Fatalf("%+v of %+v may not be", p, b)
			}
		}
		got, e := pieces.Join(l)
		if e != api.OK || !bundle.Same(got, b) {
			t.Fatalf("Join of %+v: %+v, error %d, want %+v", l, got, e, b)
		}
		if m, e := pieces.Missing(l); e != api.OK || len(m) > 0 {
			t.Fatalf("Missing of %+v: %v, error %d", l, m, e)
		}
	}
}

// P18.4: each size of a bundle and each size of its pieces.
func TestJoinOfCutOfEachSize(t *testing.T) {
	for total := 1; total <= 40; total++ {
		b := whole(total)
		for n := 1; n <= total+1; n++ {
			cut, e := pieces.Cut(b, n)
			wants(t, fmt.Sprint(total, " by ", n), ofJoin(pieces.Join(cut)), answer{b: b, e: e})
		}
	}
}

// P18.4: the pieces of a piece go together with all other ones of that bundle, and stand for it: what is missing with them is what is missing with it.
func TestPiecesOfPieces(t *testing.T) {
	d := chance(5)
	for range 1500 {
		b := d.whole(2 + d.IntN(60))
		var l []api.Bundle
		for range 1 + d.IntN(5) {
			l = append(l, d.part(b))
		}
		i := d.IntN(len(l))
		cut, e := pieces.Cut(l[i], 1+d.IntN(len(l[i].Payload)))
		if e != api.OK {
			t.Fatal(e)
		}
		for _, x := range cut {
			for _, y := range append(append(l, b), cut...) {
				both(t, "a piece of a piece", x, y, true)
			}
		}
		again := append(append(deep(l[:i]), cut...), l[i+1:]...)
		wants(t, "Missing of both", ofMissing(pieces.Missing(d.shuffled(again))), ofMissing(pieces.Missing(l)))
		wants(t, "Join of both", ofJoin(pieces.Join(d.shuffled(again))), ofJoin(pieces.Join(l)))
		wants(t, "Join with what is missing", ofJoin(pieces.Join(append(again, b))), toldJoin(append(l, b)))
	}
}

// P18.4: pieces that are cut again in one size after another come out as the pieces of the least size, where each size is some times the next one.
func TestCutAgain(t *testing.T) {
	for what, b := range fine() {
		for _, sizes := range [][]int{{60, 20}, {64, 32, 8, 1}, {399, 133, 7}, {500, 100, 50, 10}, {7, 7}} {
			l := []api.Bundle{b}
			for _, n := range sizes {
				var out []api.Bundle
				for _, p := range l {
					cut, e := pieces.Cut(p, n)
					if e != api.OK {
						t.Fatal(what, e)
					}
					out = append(out, cut...)
				}
				l = out
			}
			wants(t, fmt.Sprint(what, sizes), answer{l: l}, toldCut(b, sizes[len(sizes)-1]))
		}
	}
}

// P18.2, P18.3: lists by chance, such as go together and such as do not, held against what is told once more.
func TestLists(t *testing.T) {
	d := chance(6)
	did := map[api.Errno]int{}
	for range 6000 {
		b := d.whole(1 + d.IntN(30))
		var l []api.Bundle
		for range d.IntN(7) {
			p := d.part(b)
			switch d.IntN(60) {
			case 0:
				p.Payload[d.IntN(len(p.Payload))]++
			case 1:
				p.Offset = d.IntN(b.Total)
			case 2:
				p.Hops = d.IntN(18)
			case 3:
				p.Priority = (p.Priority + 1) % 3
			case 4:
				p = b
			}
			l = append(l, p)
		}
		l = d.shuffled(l)
		asks(t, "by chance", l)
		if t.Failed() {
			t.FailNow()
		}
		did[toldJoin(l).e]++
	}
	for _, e := range []api.Errno{api.OK, api.ErrNone, api.ErrPieces} {
		if did[e] < 500 {
			t.Errorf("error %d: %d times", e, did[e])
		}
	}
}
