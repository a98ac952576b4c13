package agent_test

import (
	"fmt"
	"slices"
	"testing"

	"heliograph/agent"
	"heliograph/api"
	"heliograph/bundle"
)

// P19.6: long rows of Make, Arrive and Expire by chance, held against what is told once more; what is answered may be, and is the same as files and back.
func TestLongRows(t *testing.T) {
	d := chance(2)
	kinds, errs := map[int]int{}, map[api.Errno]int{}
	for range 60 {
		now := 0
		a := first(1 + d.IntN(6))
		var way []api.Bundle
		for range 250 {
			now += d.IntN(3)
			got, want := d.step(a, &way, now)
			wants(t, "by chance", got, want)
			if t.Failed() {
				t.FailNow()
			}
			kinds[got.v.Kind]++
			errs[got.e]++
			if got.e != api.OK {
				continue
			}
			a = got.a
			if agent.Check(a) != api.OK {
				t.Fatalf("%+v may not be", a)
			}
			if l := saved(t, a); d.IntN(4) == 0 {
				wants(t, "as files", of(agent.Load(a.Node, l)), answer{a: a})
			}
		}
	}
	for kind := api.VerdictBad; kind <= api.VerdictHand; kind++ {
		if kinds[kind] < 20 {
			t.Errorf("the verdict %d was told %d times", kind, kinds[kind])
		}
	}
	if errs[api.ErrArg] < 20 {
		t.Error(errs)
	}
}

// step is one call by chance; way has the bundles that may come in.
func (d dice) step(a api.Agent, way *[]api.Bundle, now int) (got, want answer) {
	switch d.IntN(12) {
	case 0:
		w := api.Wish{Dest: d.IntN(8), Lifetime: 1 + d.IntN(90), HopLimit: 1 + d.IntN(4), Priority: d.IntN(3), Part: d.IntN(60)}
		b := fill(d.IntN(99), d.IntN(100))
		got, want = ofMake(agent.Make(a, w, b, now)), toldMake(a, w, b, now)
		*way = append(*way, got.l...)
		return got, want
	case 1:
		at := now - d.IntN(3)
		return of(agent.Expire(a, at)), toldExpire(a, at)
	case 2, 3:
		b := whole(1+d.IntN(6), uint32(1+d.IntN(4)), 1+d.IntN(60))
		b.Dest, b.Created, b.Lifetime, b.HopLimit, b.Hops = a.Node, now, 5+d.IntN(80), 3, d.IntN(3)
		if d.IntN(3) == 0 {
			b.Dest = 1 + d.IntN(6)
			b.Hops = d.IntN(4)
		}
		for range 1 + d.IntN(3) {
			for at, n := 0, 0; at < b.Total; at += n {
				n = min(b.Total-at, 10+d.IntN(40))
				*way = append(*way, hopped(d.IntN(b.HopLimit+1), part(b, at, n)))
			}
		}
	}
	if len(*way) == 0 {
		*way = append(*way, to(a.Node, whole(1+d.IntN(6), 9, 9)))
	}
	b := (*way)[d.IntN(len(*way))]
	switch d.IntN(40) {
	case 0:
		b.Hops = b.HopLimit + 1
	case 1:
		b.Payload = slices.Clone(b.Payload)
		b.Payload[d.IntN(len(b.Payload))]++
	case 2:
		b.Priority = (b.Priority + 1) % 3
	}
	return ofArrive(agent.Arrive(a, b, now)), toldArrive(a, b, now)
}

// P19.6: what is cut at one node, goes by another one, and comes in at a third in whatever order and doubled, is handed over once, as it was made, with one hop more.
func TestFromNodeToNode(t *testing.T) {
	d := chance(3)
	for i := range 400 {
		from, by, at := first(1), busy(), first(3)
		from.Next = uint32(1 + i)
		payload := fill(i, 1+d.IntN(most))
		w := api.Wish{Dest: 3, Lifetime: 50, HopLimit: 2 + d.IntN(9), Priority: i % 3, Part: len(payload)/7 + 1 + d.IntN(40)}
		from, l, e := agent.Make(from, w, payload, 7)
		if e != api.OK || len(l) > maxParts {
			t.Fatal(e, len(l))
		}
		made := api.Bundle{Source: 1, Dest: 3, Seq: uint32(1 + i), Created: 7, Lifetime: 50, HopLimit: w.HopLimit, Hops: 1, Priority: i % 3, Total: len(payload), Payload: payload}
		handed := 0
		for _, b := range d.shuffled(append(l, l...)) {
			if d.IntN(3) == 0 {
				kindIs(t, "at home", from, b, 9, api.VerdictOwn)
			}
			var v api.Verdict
			if by, v = arrives(t, by, b, 9); v.Kind == api.VerdictAgain {
				continue
			}
			wants(t, "kept", answer{v: v}, answer{v: api.Verdict{Kind: api.VerdictKeep, Bundle: hopped(1, b)}})
			at, v = arrives(t, at, v.Bundle, 12)
			if v.Kind == api.VerdictHand {
				handed++
				wants(t, "handed over", answer{v: v}, answer{v: api.Verdict{Kind: api.VerdictHand, Bundle: made}})
			} else if v.Kind != api.VerdictPart {
				t.Fatalf("the verdict %d", v.Kind)
			}
		}
		if handed != 1 || len(at.Parts) > 0 || len(at.Seen) != len(l) {
			t.Fatalf("handed over %d times", handed)
		}
		for _, b := range l {
			kindIs(t, "doubled late", at, hopped(1, b), 12, api.VerdictAgain)
			kindIs(t, "doubled too late", at, hopped(1, b), 57, api.VerdictOld)
		}
	}
}

// P19.6: what was taken in is not taken in again as long as it is among Seen, that is till 64 others were.
func TestTakenInOnce(t *testing.T) {
	b := whole(3, 1000, 20)
	for what, b := range map[string]api.Bundle{"whole": b, "a piece": part(b, 3, 9), "kept": to(4, b), "a piece kept": to(4, part(b, 3, 9))} {
		a, v := arrives(t, first(2), b, 0)
		kind := v.Kind
		for i := range maxSeen {
			kindIs(t, what, a, b, 0, api.VerdictAgain)
			kindIs(t, what+", otherwise kept", a, hopped(15, b), 0, api.VerdictAgain)
			a = kindIs(t, what, a, to(2+i%2, whole(4, uint32(1+i), 20)), 0, api.VerdictHand-3*(i%2))
		}
		a, v = arrives(t, a, b, 0)
		if v.Kind != kind {
			t.Errorf("%s: the verdict %d behind %d others", what, v.Kind, maxSeen)
		}
		kindIs(t, what, a, b, 0, api.VerdictAgain)
	}
}

// P19.6: no two bundles that an agent makes have one Seq, whatever stands between, and whatever is refused.
func TestNoTwoOfOneSeq(t *testing.T) {
	d := chance(4)
	a := busy()
	seqs := map[uint32]int{}
	for i := range 600 {
		w := wish()
		if i%5 == 4 {
			w.Dest = 2
		}
		b, l, e := agent.Make(a, w, fill(i, 1+i%90), i)
		if e != api.OK {
			if i%5 != 4 {
				t.Fatal(e)
			}
			continue
		}
		a = b
		seqs[l[0].Seq]++
		for _, x := range l {
			if x.Seq != l[0].Seq || bundle.Check(x) != api.OK {
				t.Fatalf("a piece of %+v", l)
			}
		}
		a, _ = arrives(t, a, l[d.IntN(len(l))], i)
		a, _ = arrives(t, a, whole(1+d.IntN(6), uint32(1+d.IntN(5)), 9), i)
		a, _ = agent.Expire(a, i)
		if a, e = agent.Load(2, saved(t, a)); e != api.OK {
			t.Fatal(e)
		}
	}
	for seq, n := range seqs {
		if n > 1 {
			t.Errorf("the Seq %d: %d times", seq, n)
		}
	}
	if len(seqs) != 480 {
		t.Error(len(seqs))
	}
}

// P19.6: what goes from Parts is what has expired, or is handed over; all others stay, in their order.
func TestPartsStay(t *testing.T) {
	d := chance(5)
	for i := range 300 {
		a := first(2)
		var all []api.Bundle
		for n := range 3 {
			w := whole(3+n, uint32(1+i), 4+d.IntN(60))
			for _, b := range cut(w, w.Total/2+1) {
				all = append(all, b)
			}
		}
		want := map[api.BundleId]int{}
		for _, b := range d.shuffled(all) {
			var v api.Verdict
			before := a.Parts
			a, v = arrives(t, a, b, 0)
			want[bundle.Id(b)]++
			stay := slices.DeleteFunc(deepList(before), func(x api.Bundle) bool { return v.Kind == api.VerdictHand && bundle.Id(x) == bundle.Id(b) })
			if v.Kind == api.VerdictPart {
				stay = append(stay, b)
			}
			wants(t, fmt.Sprint("behind the verdict ", v.Kind), answer{l: a.Parts}, answer{l: stay})
		}
		if len(a.Parts) > 0 || len(want) != 3 {
			t.Fatalf("%+v are left", a.Parts)
		}
	}
}
