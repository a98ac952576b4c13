package agent_test

import (
	"fmt"
	"math"
	"testing"

	"heliograph/agent"
	"heliograph/api"
)

// P19.1: the numbers of package api are those that the chapter and its limits say.
func TestNumbers(t *testing.T) {
	if api.ErrAgent != 290 || api.MaxSeen != maxSeen || api.MaxParts != maxParts || api.MaxPayload != most || api.MaxTick != maxTick || api.MaxNodes != 6 {
		t.Error("a number of package api is another one than the document says")
	}
	for i, kind := range []int{api.VerdictBad, api.VerdictOld, api.VerdictAgain, api.VerdictOwn, api.VerdictHops, api.VerdictKeep, api.VerdictFull, api.VerdictPart, api.VerdictHand} {
		if kind != i+1 {
			t.Errorf("the verdict %d is %d", i+1, kind)
		}
	}
}

// P19.1 to P19.5: the chapter's examples.
func TestExamples(t *testing.T) {
	a, e := agent.New(2)
	wants(t, "New", of(a, e), answer{a: api.Agent{Node: 2, Next: 1}})
	made := api.Bundle{Source: 2, Dest: 1, Seq: 1, Lifetime: 10, HopLimit: 4, Total: 3, Payload: []byte{5, 6, 7}}
	got := ofMake(agent.Make(a, api.Wish{Dest: 1, Lifetime: 10, HopLimit: 4, Priority: 0, Part: 2}, []byte{5, 6, 7}, 0))
	wants(t, "Make", got, answer{a: api.Agent{Node: 2, Next: 2}, l: []api.Bundle{part(made, 0, 2), part(made, 2, 1)}})

	x := api.Bundle{Source: 1, Dest: 2, Seq: 1, Lifetime: 10, HopLimit: 4, Total: 1, Payload: []byte{9}}
	c := sight(a, one(1, 1, 0, 1))
	wants(t, "a whole one", ofArrive(agent.Arrive(a, x, 0)), answer{a: c, v: api.Verdict{Kind: api.VerdictHand, Bundle: x}})
	wants(t, "again", ofArrive(agent.Arrive(c, x, 0)), answer{a: c, v: api.Verdict{Kind: api.VerdictAgain}})
	wants(t, "at its end", ofArrive(agent.Arrive(c, x, 10)), answer{a: c, v: api.Verdict{Kind: api.VerdictOld}})
	x.Dest, x.Hops = 3, 1
	wants(t, "for 3", ofArrive(agent.Arrive(a, x, 0)), answer{a: c, v: api.Verdict{Kind: api.VerdictKeep, Bundle: hopped(2, x)}})
	wants(t, "for 3, no hop left", ofArrive(agent.Arrive(a, hopped(4, x), 0)), answer{a: a, v: api.Verdict{Kind: api.VerdictHops}})
	refuses(t, "Make to itself", ofMake(agent.Make(a, api.Wish{Dest: 2, Lifetime: 10, HopLimit: 4, Part: 2}, []byte{5}, 0)), api.ErrArg)
	refuses(t, "New(7)", of(agent.New(7)), api.ErrArg)
}

// P19.1: New of each node, and of what is none.
func TestNew(t *testing.T) {
	for node := 1; node <= 6; node++ {
		wants(t, fmt.Sprint("New of ", node), of(agent.New(node)), answer{a: api.Agent{Node: node, Next: 1}})
	}
	for _, node := range append(far(), 0, -1, -6, 7, 8, 255, 256) {
		refuses(t, fmt.Sprint("New of ", node), of(agent.New(node)), api.ErrArg)
	}
}

// P19.1: Check takes all agents that may be.
func TestCheck(t *testing.T) {
	for what, a := range fine() {
		if e := agent.Check(a); e != api.OK || !mayBe(a) {
			t.Errorf("%s: error %d of %+v", what, e, a)
		}
	}
}

// P19.1: each reason for which an agent may not be, by itself, at each place.
func TestCheckOfWhatMayNotBe(t *testing.T) {
	for what, a := range wrongAgents() {
		if e := agent.Check(a); e != api.ErrAgent || mayBe(a) {
			t.Errorf("%s: error %d of %+v", what, e, a)
		}
	}
}

// P19.1: each number of what was seen at its edges, side by side and apart from what is like it.
func TestCheckOfSeen(t *testing.T) {
	for at := -1; at <= most+1; at++ {
		for _, n := range []int{-1, 0, 1, 2, most - at - 1, most - at, most - at + 1, most, most + 1} {
			a := sight(busy(), one(3, 4, at, n))
			if got := agent.Check(a) == api.OK; got != mayBe(a) || got != (at >= 0 && n > 0 && at+n <= most) {
				t.Errorf("%d bytes at %d: %t", n, at, got)
			}
		}
	}
	l := rows(maxSeen)
	for i := range l {
		for j := range l {
			again := sight(first(1), rows(maxSeen)...)
			again.Seen[i] = l[j]
			if got := agent.Check(again) == api.OK; got != (i == j) {
				t.Errorf("the one %d at %d, too: %t", j, i, got)
			}
		}
	}
	for seq := uint32(1); seq != 0; seq <<= 1 {
		a := sight(first(1), one(3, seq, 4, 5), one(3, seq^1<<31, 4, 5), one(3, math.MaxUint32, 4, 5))
		if got := agent.Check(a) == api.OK; got != (seq^1<<31 != 0) {
			t.Errorf("Seq %d: %t", seq, got)
		}
	}
}

// P19.1: of pieces by chance, whether they go together, and whether something is missing, held against what is told once more.
func TestCheckOfParts(t *testing.T) {
	d := chance(1)
	did := map[bool]int{}
	for range 4000 {
		var a api.Agent
		a.Node, a.Next = 2, 5
		bs := []api.Bundle{whole(3, 7, 2+d.IntN(12)), whole(4, 7, 2+d.IntN(12)), whole(3, 8, 2+d.IntN(12))}
		for range d.IntN(8) {
			b := d.piece(bs[d.IntN(3)])
			if d.IntN(25) == 0 {
				b.Payload[d.IntN(len(b.Payload))]++
			}
			a.Parts = append(a.Parts, b)
		}
		want := mayBe(a)
		did[want]++
		if got := agent.Check(a) == api.OK; got != want {
			t.Fatalf("%t of %+v", got, a)
		}
	}
	if did[true] < 500 || did[false] < 500 {
		t.Error(did)
	}
}

// parting are agents that part from busy in one thing each.
func parting() map[string]api.Agent {
	out := map[string]api.Agent{"new": first(2), "zero": {}, "without Seen": sight(busy()), "without Parts": parted(busy())}
	for what, f := range map[string]func(a *api.Agent){
		"Node": func(a *api.Agent) { a.Node = 3 }, "Node far": func(a *api.Agent) { a.Node += 1 << 32 }, "Next": func(a *api.Agent) { a.Next++ }, "Next far": func(a *api.Agent) { a.Next ^= 1 << 31 },
		"fewer Seen": func(a *api.Agent) { a.Seen = a.Seen[:6] }, "fewer Seen ahead": func(a *api.Agent) { a.Seen = a.Seen[1:] }, "more Seen": func(a *api.Agent) { a.Seen = append(a.Seen, one(1, 1, 1, 1)) },
		"fewer Parts": func(a *api.Agent) { a.Parts = a.Parts[:4] }, "fewer Parts ahead": func(a *api.Agent) { a.Parts = a.Parts[1:] }, "more Parts": func(a *api.Agent) { a.Parts = append(a.Parts, single(1)...) },
	} {
		a := deep(busy())
		f(&a)
		out[what] = a
	}
	for i := range busy().Seen {
		for what, f := range map[string]func(s *api.Seen){
			"Source": func(s *api.Seen) { s.Key.Source ^= 1 }, "Seq": func(s *api.Seen) { s.Key.Seq ^= 1 << 20 }, "Offset": func(s *api.Seen) { s.Key.Offset++ }, "N": func(s *api.Seen) { s.N-- },
		} {
			a := deep(busy())
			f(&a.Seen[i])
			out[fmt.Sprint(what, " of ", i, " of Seen")] = a
		}
		a := deep(busy())
		j := (i + 3) % len(a.Seen)
		a.Seen[i], a.Seen[j] = a.Seen[j], a.Seen[i]
		out[fmt.Sprint(i, " and ", j, " of Seen exchanged")] = a
	}
	for i := range busy().Parts {
		for what, f := range others() {
			a := deep(busy())
			f(&a.Parts[i])
			out[fmt.Sprint(what, " of ", i, " of Parts")] = a
		}
		for what, f := range map[string]func(b *api.Bundle){
			"Source": func(b *api.Bundle) { b.Source++ }, "Dest": func(b *api.Bundle) { b.Dest++ }, "Seq": func(b *api.Bundle) { b.Seq++ }, "Hops": func(b *api.Bundle) { b.Hops++ }, "Offset": func(b *api.Bundle) { b.Offset++ }, "one byte fewer": func(b *api.Bundle) { b.Payload = b.Payload[1:] }, "one byte more": func(b *api.Bundle) { b.Payload = append(b.Payload, 0) },
		} {
			a := deep(busy())
			f(&a.Parts[i])
			out[fmt.Sprint(what, " of ", i, " of Parts")] = a
		}
		a := deep(busy())
		j := (i + 2) % len(a.Parts)
		a.Parts[i], a.Parts[j] = a.Parts[j], a.Parts[i]
		out[fmt.Sprint(i, " and ", j, " of Parts exchanged")] = a
	}
	return out
}

// P19.1: Same of agents that are, and of such as part in one thing; whether they may be is not asked.
func TestSame(t *testing.T) {
	for what, a := range fine() {
		if !agent.Same(a, deep(a)) {
			t.Errorf("%s is not the same", what)
		}
	}
	for what, a := range wrongAgents() {
		if !agent.Same(a, deep(a)) {
			t.Errorf("%s is not the same", what)
		}
	}
	for what, a := range parting() {
		if agent.Same(a, busy()) || agent.Same(busy(), a) {
			t.Errorf("%s is the same", what)
		}
	}
}

// P19.1 to P19.5: ErrAgent comes ahead of all else, in each call that is handed an agent.
func TestErrAgentIsFirst(t *testing.T) {
	l := wrongAgents()
	for _, what := range sorted(l) {
		a := l[what]
		good := api.Wish{Dest: 1 + a.Node&1, Lifetime: 5, HopLimit: 4, Part: 9}
		refuses(t, what+": Make", ofMake(agent.Make(a, good, []byte{1}, 0)), api.ErrAgent)
		refuses(t, what+": Make of nothing", ofMake(agent.Make(a, api.Wish{}, nil, -1)), api.ErrAgent)
		refuses(t, what+": Arrive", ofArrive(agent.Arrive(a, whole(3, 5, 20), 0)), api.ErrAgent)
		refuses(t, what+": Arrive of nothing", ofArrive(agent.Arrive(a, api.Bundle{}, -1)), api.ErrAgent)
		refuses(t, what+": Expire", of(agent.Expire(a, 5)), api.ErrAgent)
		refuses(t, what+": Expire ahead of 0", of(agent.Expire(a, -1)), api.ErrAgent)
		refuses(t, what+": Save", ofSave(agent.Save(a)), api.ErrAgent)
		if a.Next == math.MaxUint32 {
			t.Errorf("%s has the greatest Next", what)
		}
		a.Next = math.MaxUint32
		if !mayBe(a) {
			refuses(t, what+": Make without a Seq", ofMake(agent.Make(a, good, []byte{1}, 0)), api.ErrAgent)
		}
	}
}
