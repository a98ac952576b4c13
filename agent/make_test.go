package agent_test

import (
	"fmt"
	"math"
	"testing"

	"heliograph/agent"
	"heliograph/api"
)

func wish() api.Wish {
	return api.Wish{Dest: 5, Lifetime: 300, HopLimit: 9, Priority: 1, Part: 30}
}

// asksMake holds a Make against what is told once more.
func asksMake(t *testing.T, what string, a api.Agent, w api.Wish, payload []byte, now int) answer {
	t.Helper()
	got := ofMake(agent.Make(a, w, payload, now))
	wants(t, fmt.Sprintf("%s: Make of %+v, %d bytes at %d", what, w, len(payload), now), got, toldMake(a, w, payload, now))
	return got
}

// P19.2: what is made, field by field.
func TestMake(t *testing.T) {
	got := ofMake(agent.Make(busy(), wish(), fill(3, 70), 1234))
	b := api.Bundle{Source: 2, Dest: 5, Seq: 90000, Created: 1234, Lifetime: 300, HopLimit: 9, Hops: 0, Priority: 1, Total: 70, Payload: fill(3, 70)}
	after := busy()
	after.Next = 90001
	wants(t, "Make", got, answer{a: after, l: []api.Bundle{part(b, 0, 30), part(b, 30, 30), part(b, 60, 10)}})
	for what, a := range fine() {
		for dest := 1; dest <= 6; dest++ {
			w := wish()
			w.Dest = dest
			asksMake(t, what, a, w, fill(dest, 40), 7)
		}
	}
}

// P19.2: a Dest that is none, or this node.
func TestMakeToNobody(t *testing.T) {
	for node := 1; node <= 6; node++ {
		for _, dest := range append(far(), -1, 0, 1, 2, 3, 4, 5, 6, 7, 8) {
			w := wish()
			w.Dest = dest
			got := asksMake(t, "to", first(node), w, []byte{1, 2}, 7)
			if (got.e == api.OK) != (dest >= 1 && dest <= 6 && dest != node) {
				t.Errorf("from %d to %d: error %d", node, dest, got.e)
			}
		}
	}
}

// P19.2: pieces of each size, of payloads of each length.
func TestMakeInPieces(t *testing.T) {
	for _, n := range []int{0, 1, 2, 3, 5, 64, 255, 256, 257, most - 1, most, most + 1, 2 * most, 1 << 16} {
		for _, size := range append(far(), -most, -1, 0, 1, 2, 3, 5, n-1, n, n+1, n/2, 255, 256, most-1, most, most+1) {
			w := wish()
			w.Part = size
			got := asksMake(t, "pieces", busy(), w, fill(n, n), 7)
			if (got.e == api.OK) != (n >= 1 && n <= most && size >= 1 && size <= most) {
				t.Errorf("%d bytes by %d: error %d", n, size, got.e)
			}
			if got.e == api.OK && len(got.l) != (n+size-1)/size {
				t.Errorf("%d bytes by %d: %d pieces", n, size, len(got.l))
			}
		}
	}
}

// P19.2: each number of the Wish, and now, at its edges.
func TestMakeAtTheEdges(t *testing.T) {
	for what, edge := range map[string]struct {
		put             func(w *api.Wish, now *int, x int)
		least, greatest int
	}{
		"Lifetime": {func(w *api.Wish, now *int, x int) { w.Lifetime = x }, 1, maxTick},
		"HopLimit": {func(w *api.Wish, now *int, x int) { w.HopLimit = x }, 1, 16},
		"Priority": {func(w *api.Wish, now *int, x int) { w.Priority = x }, 0, 2},
		"Part":     {func(w *api.Wish, now *int, x int) { w.Part = x }, 1, most},
		"now":      {func(w *api.Wish, now *int, x int) { *now = x }, 0, maxTick},
	} {
		for _, x := range append(far(), edge.least-2, edge.least-1, edge.least, edge.least+1, edge.greatest-1, edge.greatest, edge.greatest+1, edge.greatest+2) {
			w, now := wish(), 1234
			edge.put(&w, &now, x)
			got := asksMake(t, what, busy(), w, fill(9, 77), now)
			want := api.OK
			if x < edge.least || x > edge.greatest {
				want = api.ErrArg
			}
			if got.e != want {
				t.Errorf("%s %d: error %d", what, x, got.e)
			}
		}
	}
	got := asksMake(t, "all at once", first(6), api.Wish{Dest: 1, Lifetime: maxTick, HopLimit: 16, Priority: 2, Part: most}, fill(1, most), maxTick)
	if got.e != api.OK || len(got.l) != 1 {
		t.Error(got)
	}
}

// P19.2: the last Seq is 2^32 - 2; ErrArg is ahead of ErrFull.
func TestMakeTheLast(t *testing.T) {
	a := first(3)
	a.Next = math.MaxUint32 - 1
	got := asksMake(t, "the last one", a, wish(), []byte{1}, 0)
	if got.e != api.OK || got.l[0].Seq != math.MaxUint32-1 || got.a.Next != math.MaxUint32 {
		t.Fatal(got)
	}
	a = got.a
	refuses(t, "one more", ofMake(agent.Make(a, wish(), []byte{1}, 0)), api.ErrFull)
	refuses(t, "one more of a full one", ofMake(agent.Make(full(), wish(), []byte{1}, 0)), api.ErrFull)
	for what, f := range map[string]func(w *api.Wish, b *[]byte, now *int){
		"Dest 0": func(w *api.Wish, b *[]byte, now *int) { w.Dest = 0 }, "Dest 3": func(w *api.Wish, b *[]byte, now *int) { w.Dest = 3 }, "Lifetime 0": func(w *api.Wish, b *[]byte, now *int) { w.Lifetime = 0 }, "HopLimit 17": func(w *api.Wish, b *[]byte, now *int) { w.HopLimit = 17 }, "Priority 3": func(w *api.Wish, b *[]byte, now *int) { w.Priority = 3 }, "Part 0": func(w *api.Wish, b *[]byte, now *int) { w.Part = 0 }, "Part 401": func(w *api.Wish, b *[]byte, now *int) { w.Part = most + 1 },
		"no payload": func(w *api.Wish, b *[]byte, now *int) { *b = nil }, "a long payload": func(w *api.Wish, b *[]byte, now *int) { *b = fill(1, most+1) }, "now -1": func(w *api.Wish, b *[]byte, now *int) { *now = -1 }, "now": func(w *api.Wish, b *[]byte, now *int) { *now = maxTick + 1 },
	} {
		w, b, now := wish(), []byte{1}, 0
		f(&w, &b, &now)
		refuses(t, what+" without a Seq", ofMake(agent.Make(a, w, b, now)), api.ErrArg)
		refuses(t, what, ofMake(agent.Make(first(3), w, b, now)), api.ErrArg)
	}
}

// P19.2: Next is one more, also where its bytes carry; what is in Seen and Parts stays.
func TestMakeCounts(t *testing.T) {
	for _, next := range []uint32{1, 2, 255, 256, 65535, 1<<24 - 1, 1<<31 - 1, 1 << 31, math.MaxUint32 - 2} {
		a := busy()
		a.Next = next
		got := asksMake(t, "one more", a, wish(), []byte{1}, 0)
		if got.a.Next != next+1 || got.l[0].Seq != next {
			t.Errorf("behind %d: %d", next, got.a.Next)
		}
	}
}
