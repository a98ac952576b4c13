package agent_test

import (
	"fmt"
	"math"
	"slices"
	"testing"

	"heliograph/agent"
	"heliograph/api"
)

// kindIs asks for a verdict, besides all that is told once more.
func kindIs(t *testing.T, what string, a api.Agent, b api.Bundle, now, kind int) api.Agent {
	t.Helper()
	c, v := arrives(t, a, b, now)
	if v.Kind != kind {
		t.Fatalf("%s: the verdict %d, want %d", what, v.Kind, kind)
	}
	return c
}

// bundles are such as may be, whole ones and pieces, of ids that busy has not.
func bundles() map[string]api.Bundle {
	w := whole(3, 99, 120)
	return map[string]api.Bundle{
		"whole": w, "a piece": part(w, 40, 30), "a piece at the front": part(w, 0, 1), "a piece at the end": part(w, 119, 1), "of one byte": whole(1, 1, 1), "of the most": whole(4, math.MaxUint32, most), "all but one byte": part(whole(4, 5, most), 1, most-1),
		"with no hop": hopped(0, w), "with all hops": hopped(15, w),
		"the greatest": {Source: 6, Dest: 2, Seq: math.MaxUint32, Created: maxTick, Lifetime: maxTick, HopLimit: 16, Hops: 16, Priority: 2, Total: most, Payload: fill(8, most)},
		"the least":    {Source: 1, Dest: 2, Seq: 1, Lifetime: 1, HopLimit: 1, Total: 1, Payload: []byte{0}},
	}
}

// P19.3: what may not be, each for one reason; nothing is remembered of it.
func TestArriveBad(t *testing.T) {
	for what, b := range wrongBundles() {
		for _, a := range []api.Agent{first(2), busy(), full(), first(3)} {
			for _, now := range []int{0, 1300, maxTick} {
				got := ofArrive(agent.Arrive(a, b, now))
				wants(t, what, got, answer{a: a, v: api.Verdict{Kind: api.VerdictBad}})
			}
		}
	}
}

// P19.3: at the moment at which it expires, one tick ahead of it, one behind; now is whatever it is, for the chapter asks nothing of it.
func TestArriveOld(t *testing.T) {
	for what, b := range bundles() {
		end := b.Created + b.Lifetime
		for _, now := range append(far(), -1, 0, b.Created-1, b.Created, end-1, end, end+1, maxTick, maxTick+1) {
			got := ofArrive(agent.Arrive(busy(), b, now))
			wants(t, fmt.Sprint(what, " at ", now), got, toldArrive(busy(), b, now))
			if (got.v.Kind == api.VerdictOld) != (now >= end) {
				t.Errorf("%s at %d: the verdict %d", what, now, got.v.Kind)
			}
		}
	}
}

// P19.3: what is among Seen, at each place; with another number of bytes, or another key, it is not.
func TestArriveAgain(t *testing.T) {
	b := part(whole(3, 99, 120), 40, 30)
	s := one(3, 99, 40, 30)
	for i := range len(busy().Seen) + 1 {
		kindIs(t, "again", spied(busy(), i, s), b, 0, api.VerdictAgain)
	}
	for i := range maxSeen {
		a := sight(busy(), rows(maxSeen)...)
		a.Seen[i] = s
		kindIs(t, "again among the most", a, b, 0, api.VerdictAgain)
		kindIs(t, "another byte", a, changed(b, func(b *api.Bundle) { b.Payload[3]++ }), 0, api.VerdictAgain)
		kindIs(t, "for another node", a, to(3, b), 0, api.VerdictAgain)
		kindIs(t, "of another Total", a, changed(b, func(b *api.Bundle) { b.Total = most }), 0, api.VerdictAgain)
	}
	for what, x := range map[string]api.Seen{
		"fewer bytes": one(3, 99, 40, 29), "more bytes": one(3, 99, 40, 31), "the Total": one(3, 99, 40, 120), "another Offset": one(3, 99, 41, 30), "one ahead": one(3, 99, 39, 30), "the Offset 0": one(3, 99, 0, 30), "another Seq": one(3, 98, 40, 30), "another Source": one(4, 99, 40, 30), "Seq and Offset exchanged": one(3, 40, 99, 30), "another Seq, far": one(3, 99+1<<31, 40, 30),
	} {
		kindIs(t, what, sight(busy(), x), b, 0, api.VerdictPart)
		kindIs(t, what+" for another node", sight(busy(), x), to(3, b), 0, api.VerdictKeep)
		kindIs(t, what+" beside the same", sight(busy(), x, s), b, 0, api.VerdictAgain)
	}
}

// P19.3: one of this node itself, for whom it may ever be.
func TestArriveOwn(t *testing.T) {
	for node := 1; node <= 6; node++ {
		for dest := 1; dest <= 6; dest++ {
			for source := 1; source <= 6; source++ {
				for _, b := range []api.Bundle{to(dest, whole(source, 99, 20)), to(dest, part(whole(source, 99, 20), 3, 4))} {
					_, v := arrives(t, first(node), b, 0)
					if (v.Kind == api.VerdictOwn) != (source == node) {
						t.Errorf("from %d to %d at %d: the verdict %d", source, dest, node, v.Kind)
					}
				}
			}
		}
	}
}

// P19.3: Hops one below HopLimit, and as many: for another node, and for this one, where they do not count.
func TestArriveHops(t *testing.T) {
	for limit := 1; limit <= 16; limit++ {
		for hops := 0; hops <= limit; hops++ {
			b := changed(whole(3, 99, 20), func(b *api.Bundle) { b.HopLimit, b.Hops = limit, hops })
			for _, dest := range []int{1, 3, 4, 6} {
				a, v := arrives(t, busy(), to(dest, b), 0)
				if hops == limit {
					wants(t, "no hop left", answer{a: a, v: v}, answer{a: busy(), v: api.Verdict{Kind: api.VerdictHops}})
					continue
				}
				after := busy()
				after.Seen = append(after.Seen, one(3, 99, 0, 20))
				wants(t, "kept", answer{a: a, v: v}, answer{a: after, v: api.Verdict{Kind: api.VerdictKeep, Bundle: hopped(hops+1, to(dest, b))}})
			}
			kindIs(t, "for this node", busy(), b, 0, api.VerdictHand)
			kindIs(t, "a piece for this node", busy(), part(b, 3, 4), 0, api.VerdictPart)
		}
	}
}

// P19.3: what is for another node is kept, a piece as it is; Parts have nothing to do with it, also of its id, also where there are as many as can be.
func TestArriveKeep(t *testing.T) {
	a := parted(busy(), single(maxParts)...)
	for _, dest := range []int{1, 3, 4, 5, 6} {
		for _, b := range []api.Bundle{part(whole(3, 500, 200), 7, 30), whole(3, 500, 30), part(a.Parts[2], 1, 3), whole(6, 9, 3)} {
			b = to(dest, b)
			c, v := arrives(t, a, b, 0)
			if v.Kind != api.VerdictKeep || len(c.Parts) != maxParts || v.Bundle.Hops != b.Hops+1 {
				t.Errorf("the verdict %+v", v)
			}
		}
	}
}

// P19.3: a piece where Parts has as many as can be, also one that would have made its bundle whole, also one that is there; a whole one is handed over.
func TestArriveFull(t *testing.T) {
	w := whole(3, 99, 100)
	for n := 1; n <= maxParts; n++ {
		kind := api.VerdictPart
		last := api.VerdictHand
		if n == maxParts {
			kind, last = api.VerdictFull, api.VerdictFull
		}
		a := parted(busy(), append(single(n-1), part(w, 0, 60))...)
		kindIs(t, "one more", a, part(w, 60, 39), 0, kind)
		kindIs(t, "the last one", a, part(w, 60, 40), 0, last)
		kindIs(t, "one that is there", a, part(w, 10, 20), 0, kind)
		kindIs(t, "of another id", a, part(whole(4, 99, 100), 60, 40), 0, kind)
		kindIs(t, "the whole one", a, w, 0, api.VerdictHand)
		kindIs(t, "another whole one", a, whole(4, 99, 100), 0, api.VerdictHand)
	}
	all := cut(w, 14) // 8 of them
	a := parted(first(2), all[:maxParts]...)
	wants(t, "the eighth", ofArrive(agent.Arrive(a, all[7], 0)), answer{a: a, v: api.Verdict{Kind: api.VerdictFull}})
}

// P19.3: a piece that does not go together with those of its id, by one field or by one byte, whichever of them it is held against; of another id it does.
func TestArriveApart(t *testing.T) {
	w := whole(5, 70000, 390)
	for what, f := range others() {
		for _, at := range []int{30, 50, 60, 71, 76} {
			b := changed(part(w, at, 15), f)
			wants(t, fmt.Sprint(what, " at ", at), ofArrive(agent.Arrive(busy(), b, 0)), answer{a: busy(), v: api.Verdict{Kind: api.VerdictFull}})
			b.Seq = 70002
			kindIs(t, what+" of another Seq", busy(), b, 0, api.VerdictPart)
			b.Seq, b.Source = 70000, 3
			kindIs(t, what+" of another Source", busy(), b, 0, api.VerdictPart)
		}
	}
	for hops := 0; hops <= 15; hops++ {
		kindIs(t, "other Hops", busy(), hopped(hops, part(w, 60, 20)), 0, api.VerdictPart)
	}
	near := changed(part(w, 91, 20), func(b *api.Bundle) { b.Payload[0]++ })
	kindIs(t, "another byte beside the others", busy(), near, 0, api.VerdictPart)
	near = changed(part(w, 90, 20), func(b *api.Bundle) { b.Payload[0]++ })
	kindIs(t, "another byte at the last one", busy(), near, 0, api.VerdictFull)
	near = changed(part(w, 20, 11), func(b *api.Bundle) { b.Payload[10]++ })
	kindIs(t, "another byte at the first one", busy(), near, 0, api.VerdictFull)
}

// P19.3: a whole bundle of which pieces are there is told as it came, and these go, from whatever places; one that does not go together with them is VerdictFull, as a piece is.
func TestArriveWholeWithPieces(t *testing.T) {
	for _, hops := range []int{0, 7, 9, 15} {
		w := hopped(hops, whole(5, 70000, 390))
		after := busy()
		after.Parts = []api.Bundle{after.Parts[1], after.Parts[3], after.Parts[4]}
		after.Seen = append(after.Seen, one(5, 70000, 0, 390))
		wants(t, "whole", ofArrive(agent.Arrive(busy(), w, 0)), answer{a: after, v: api.Verdict{Kind: api.VerdictHand, Bundle: w}})
	}
	for what, f := range map[string]func(b *api.Bundle){
		"Created": func(b *api.Bundle) { b.Created-- }, "Priority": func(b *api.Bundle) { b.Priority++ }, "a byte of the first piece": func(b *api.Bundle) { b.Payload[30]++ }, "a byte of the last one": func(b *api.Bundle) { b.Payload[90]++ }, "one byte fewer": func(b *api.Bundle) { b.Total, b.Payload = 389, b.Payload[:389] },
	} {
		b := changed(whole(5, 70000, 390), f)
		wants(t, what, ofArrive(agent.Arrive(busy(), b, 0)), answer{a: busy(), v: api.Verdict{Kind: api.VerdictFull}})
	}
	kindIs(t, "a byte of no piece", busy(), changed(whole(5, 70000, 390), func(b *api.Bundle) { b.Payload[91]++ }), 0, api.VerdictHand)
}

// P19.3: pieces of two bundles in turns; a piece is the last one of Parts; the last piece has those of its id go, and what is handed over is whole.
func TestArriveInTurns(t *testing.T) {
	x, y := whole(5, 8, 90), whole(6, 8, 70)
	l := []api.Bundle{hopped(3, part(x, 60, 30)), part(y, 0, 35), part(x, 0, 25), hopped(11, part(y, 30, 30)), hopped(12, part(x, 20, 40)), hopped(2, part(y, 60, 10))}
	a := first(2)
	for i, b := range l[:4] {
		a = kindIs(t, "a piece", a, b, 0, api.VerdictPart)
		wants(t, "Parts", answer{l: a.Parts}, answer{l: l[:i+1]})
	}
	want := answer{a: parted(sight(first(2), append(a.Seen, one(5, 8, 20, 40))...), l[1], l[3]), v: api.Verdict{Kind: api.VerdictHand, Bundle: hopped(12, x)}}
	wants(t, "the last one of x", ofArrive(agent.Arrive(a, l[4], 0)), want)
	want = answer{a: sight(first(2), append(want.a.Seen, one(6, 8, 60, 10))...), v: api.Verdict{Kind: api.VerdictHand, Bundle: hopped(11, y)}}
	wants(t, "the last one of y", ofArrive(agent.Arrive(kindIs(t, "x", a, l[4], 0, api.VerdictHand), l[5], 0)), want)
}

// P19.3: pieces in every order, over one another and of unlike sizes, Hops the greatest of all that came.
func TestArriveInEachOrder(t *testing.T) {
	w := whole(5, 8, 90)
	l := []api.Bundle{hopped(4, part(w, 0, 40)), hopped(15, part(w, 30, 30)), hopped(0, part(w, 59, 11)), hopped(9, part(w, 70, 20))}
	var orders func(done int)
	orders = func(done int) {
		if done < len(l) {
			for i := done; i < len(l); i++ {
				l[done], l[i] = l[i], l[done]
				orders(done + 1)
				l[done], l[i] = l[i], l[done]
			}
			return
		}
		a := parted(busy(), busy().Parts[:3]...)
		for _, b := range l[:3] {
			a = kindIs(t, "a piece", a, b, 0, api.VerdictPart)
			kindIs(t, "doubled", a, b, 0, api.VerdictAgain)
		}
		c, v := arrives(t, a, l[3], 0)
		wants(t, "whole", answer{v: v, l: c.Parts}, answer{v: api.Verdict{Kind: api.VerdictHand, Bundle: hopped(15, w)}, l: busy().Parts[:3]})
		kindIs(t, "the last one doubled", c, l[3], 0, api.VerdictAgain)
	}
	orders(0)
}

// P19.3: the greatest Hops, at whatever place of Parts, or of the last piece.
func TestArriveTakesTheGreatestHops(t *testing.T) {
	w := whole(5, 8, 90)
	l := cut(w, 15)
	for i := range l {
		for hops := range 16 {
			for j := range l {
				l[j].Hops = min(3, j)
			}
			l[i].Hops = hops
			want := 0
			for _, b := range l {
				want = max(want, b.Hops)
			}
			_, v := arrives(t, parted(busy(), l[:5]...), l[5], 0)
			wants(t, fmt.Sprint("Hops ", hops, " at ", i), answer{v: v}, answer{v: api.Verdict{Kind: api.VerdictHand, Bundle: hopped(want, w)}})
		}
	}
}

// atOnce is a bundle at which several verdicts apply at once, and the agent and the moment at which they do.
type atOnce struct {
	a   api.Agent
	b   api.Bundle
	now int
}

// bases are bundles at which a late verdict applies, and those behind it that can.
func bases() map[string]atOnce {
	w := whole(3, 99, 100)
	there := func(n int) api.Agent { return parted(busy(), append(single(n-1), part(w, 0, 60))...) }
	return map[string]atOnce{
		"Hops, Keep":       {busy(), to(4, hopped(15, w)), 1029},
		"Hops, Keep, Full": {there(maxParts), to(4, hopped(15, part(w, 60, 40))), 1029},
		"Keep":             {busy(), to(1, w), 1029},
		"Keep, Full":       {there(2), to(1, w), 1029},
		"Full":             {there(2), changed(part(w, 60, 39), func(b *api.Bundle) { b.Lifetime-- }), 1029},
		"Full, Part":       {there(maxParts), part(w, 60, 39), 1029},
		"Full, Hand":       {there(maxParts), part(w, 60, 40), 1029},
		"Full, whole":      {there(2), changed(w, func(b *api.Bundle) { b.Payload[59]++ }), 1029},
		"Part":             {there(2), part(w, 60, 39), 1029},
		"Hand":             {there(2), part(w, 60, 40), 1029},
		"Hand, whole":      {there(maxParts), w, 1029},
	}
}

// P19.3: of two or more verdicts that apply at once, the first one is told: each base with any of the four that stand ahead of all others.
func TestTheFirstVerdictIsTold(t *testing.T) {
	pairs := map[[2]int]int{}
	l := bases()
	for _, what := range sorted(l) {
		for bits := range 16 {
			c := l[what]
			a, b, now := deep(c.a), c.b, c.now
			if bits&1 > 0 {
				b.Priority = 3
			}
			if bits&2 > 0 {
				now = b.Created + b.Lifetime
			}
			if bits&4 > 0 {
				a.Seen = append(a.Seen, one(b.Source, b.Seq, b.Offset, len(b.Payload)))
			}
			if bits&8 > 0 { // what the agent of the node 3 makes
				a.Node = 3
				for i := range a.Parts {
					a.Parts[i].Dest = 3
				}
				if b.Dest == 2 {
					b.Dest = 3
				}
			}
			could := applies(a, b, now)
			for i := range could {
				for j := i + 1; j < len(could); j++ {
					if could[i] && could[j] {
						pairs[[2]int{i, j}]++
					}
				}
			}
			kindIs(t, fmt.Sprint(what, " with ", bits), a, b, now, slices.Index(could[:], true))
		}
	}
	for i := api.VerdictBad; i <= api.VerdictHand; i++ {
		for j := i + 1; j <= api.VerdictHand; j++ {
			apart := (i == api.VerdictHops || i == api.VerdictKeep) && j == api.VerdictPart || i == api.VerdictPart
			if pairs[[2]int{i, j}] == 0 && !apart {
				t.Errorf("the verdicts %d and %d: no bundle at which both apply", i, j)
			}
		}
	}
}

// P19.3: with MaxSeen the first one goes; of six verdicts nothing is remembered.
func TestArriveRemembers(t *testing.T) {
	w := whole(3, 99, 100)
	for n := maxSeen - 2; n <= maxSeen; n++ {
		a := sight(parted(first(2), part(w, 0, 60)), rows(n)...)
		for what, b := range map[string]api.Bundle{"kept": to(1, w), "a piece kept": to(6, part(w, 3, 9)), "a piece": part(w, 60, 39), "the last piece": part(w, 60, 40), "whole": w} {
			c, v := arrives(t, a, b, 0)
			want := append(rows(n), one(3, 99, b.Offset, len(b.Payload)))
			if n == maxSeen {
				want = want[1:]
			}
			if !slices.Equal(c.Seen, want) || v.Kind < api.VerdictKeep {
				t.Errorf("%s behind %d: %+v", what, n, c.Seen)
			}
		}
		for what, b := range map[string]api.Bundle{"bad": hopped(16, w), "again": part(whole(1, 8, 100), 0, 5), "own": to(3, whole(2, 99, 5)), "hops": to(3, hopped(15, w)), "apart": changed(part(w, 50, 20), func(b *api.Bundle) { b.Payload[0]++ })} {
			c, _ := arrives(t, a, b, 0)
			if !agent.Same(a, c) {
				t.Errorf("%s behind %d: %+v", what, n, c.Seen)
			}
		}
		c, _ := arrives(t, a, w, 1331)
		if !agent.Same(a, c) {
			t.Errorf("old behind %d: %+v", n, c.Seen)
		}
	}
	a := sight(parted(first(2), single(maxParts)...), rows(maxSeen)...)
	if c, v := arrives(t, a, part(w, 3, 4), 0); v.Kind != api.VerdictFull || !agent.Same(a, c) {
		t.Errorf("full: %+v", c)
	}
}
