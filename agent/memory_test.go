package agent_test

import (
	"slices"
	"testing"

	"heliograph/agent"
	"heliograph/api"
)

// roomOf is a list with something ahead of it and behind its end, and all of that.
func roomOf[T any](l []T, filler T) (in, all []T) {
	all = slices.Concat(slices.Repeat([]T{filler}, 5), l, slices.Repeat([]T{filler}, 80))
	return all[5 : 5+len(l)], all
}

// handedIn is what is handed in, with room about each list of it; spoils writes over all of that.
type handedIn struct {
	a       api.Agent
	w       api.Wish
	b       api.Bundle
	payload []byte
	f       []api.File
	now     int
	all     []any
	spoils  []func()
}

// roomy makes room about a list of what is handed in.
func roomy[T any](h *handedIn, l *[]T, filler T) {
	in, all := roomOf(*l, filler)
	*l = in
	h.all = append(h.all, all)
	h.spoils = append(h.spoils, func() { clear(all) })
}

func hands(a api.Agent, w api.Wish, b api.Bundle, payload []byte, f []api.File, now int) *handedIn {
	h := &handedIn{a: deep(a), w: w, b: b, payload: payload, f: deepFiles(f), now: now}
	for i := range h.a.Parts {
		roomy(h, &h.a.Parts[i].Payload, 0xee)
	}
	for i := range h.f {
		roomy(h, &h.f[i].Bytes, 0xdd)
	}
	roomy(h, &h.a.Parts, whole(6, 666, 6))
	roomy(h, &h.a.Seen, one(6, 666, 66, 6))
	roomy(h, &h.f, api.File{Name: "x", Bytes: fill(1, 9)})
	roomy(h, &h.b.Payload, 0xcc)
	roomy(h, &h.payload, 0xbb)
	return h
}

// said tells all that was handed in, the room about it, too.
func (h *handedIn) said() string {
	return text(h.a) + text(h.b) + text(h.payload) + text(h.f) + text(h.all)
}

// calls are all calls that answer lists.
func (h *handedIn) calls() []func() answer {
	return []func() answer{
		func() answer { return ofMake(agent.Make(h.a, h.w, h.payload, h.now)) },
		func() answer { return ofArrive(agent.Arrive(h.a, h.b, h.now)) },
		func() answer { return of(agent.Expire(h.a, h.now)) },
		func() answer { return ofSave(agent.Save(h.a)) },
		func() answer { return of(agent.Load(h.a.Node, h.f)) },
	}
}

// cases are agents by which each of the ways is gone.
func cases(t *testing.T) []*handedIn {
	t.Helper()
	var out []*handedIn
	w := whole(5, 70000, 390)
	a := full()
	a.Next = 7
	for _, c := range []struct {
		a   api.Agent
		b   api.Bundle
		now int
	}{
		{first(2), whole(3, 4, 5), 5}, {busy(), part(w, 91, 40), 5}, {busy(), w, 5}, {busy(), to(3, w), 5}, {busy(), to(3, part(w, 30, 40)), 1350}, {busy(), to(3, hopped(15, w)), 1340}, {a, part(w, 3, 4), 5}, {a, w, 5},
		{busy(), hopped(16, w), 5}, {busy(), w, 1350}, {busy(), part(w, 30, 41), 5}, {busy(), whole(2, 3, 4), 5}, {parted(first(2), single(maxParts)...), part(whole(1, 500, 200), 20, 180), 5}, {parted(first(2), cut(w, 100)[:3]...), part(w, 300, 90), 5}, {parted(first(2), part(w, 0, 389)), part(w, 389, 1), maxTick - 400000},
	} {
		out = append(out, hands(c.a, wish(), c.b, fill(7, 70), saved(t, c.a), c.now))
	}
	return out
}

// refused are those that are answered by an error, of each kind.
func refused(t *testing.T) []*handedIn {
	t.Helper()
	var out []*handedIn
	for _, a := range some() {
		out = append(out, hands(a, wish(), whole(3, 4, 5), fill(7, 70), written(a), 5))
	}
	l := saved(t, busy())
	slices.Reverse(l)
	bad := wish()
	bad.Part = 0
	return append(out, hands(busy(), bad, whole(3, 4, 5), fill(7, 70), l, -1), hands(full(), wish(), whole(3, 4, 5), fill(7, 70), l[1:], 5))
}

// R3: no call changes what it is handed, the room behind its end neither; what is refused neither.
func TestCallsLeaveWhatTheyAreHanded(t *testing.T) {
	for _, h := range append(cases(t), refused(t)...) {
		was := h.said()
		for _, f := range h.calls() {
			f()
		}
		agent.Check(h.a)
		agent.Same(h.a, h.a)
		agent.Same(h.a, busy())
		agent.Same(busy(), h.a)
		if h.said() != was {
			t.Fatalf("what was handed in is %s now, it was %s", h.said(), was)
		}
	}
}

// lists are all lists of an answer that have none in them: what each one has, and what writes over it, and over the room behind its end.
func lists(a *answer) (parts []func() string, spoils []func()) {
	for i := range a.a.Parts {
		add(&parts, &spoils, &a.a.Parts[i].Payload, 0xee)
	}
	for i := range a.l {
		add(&parts, &spoils, &a.l[i].Payload, 0xdd)
	}
	for i := range a.f {
		add(&parts, &spoils, &a.f[i].Bytes, 0xcc)
	}
	add(&parts, &spoils, &a.v.Bundle.Payload, 0xbb)
	add(&parts, &spoils, &a.a.Seen, one(6, 666, 66, 6))
	return parts, spoils
}

func add[T any](parts *[]func() string, spoils *[]func(), l *[]T, filler T) {
	*parts = append(*parts, func() string { return text(*l) })
	*spoils = append(*spoils, func() {
		all := (*l)[:cap(*l)]
		for i := range all {
			all[i] = filler
		}
	})
}

// outer are the lists of an answer whose parts have lists themselves.
func outer(a *answer) (parts []func() string, spoils []func()) {
	add(&parts, &spoils, &a.a.Parts, whole(6, 666, 6))
	add(&parts, &spoils, &a.l, whole(5, 555, 5))
	add(&parts, &spoils, &a.f, api.File{Name: "x"})
	return parts, spoils
}

// apartFrom spoils one list after another, and asks whether the others stay.
func apartFrom(t *testing.T, what string, parts []func() string, spoils []func()) {
	t.Helper()
	for i, spoil := range spoils {
		told := make([]string, len(parts))
		for j, p := range parts {
			told[j] = p()
		}
		spoil()
		for j, p := range parts {
			if j != i && p() != told[j] {
				t.Fatalf("the lists %d and %d share memory: %s", i, j, what)
			}
		}
	}
}

// R3: what is answered is new memory: no list of it shares any with another one, with what was handed in, or with another answer.
func TestAnswersShareNothing(t *testing.T) {
	for _, h := range cases(t) {
		was := h.said()
		for i, f := range h.calls() {
			other, a := f(), f()
			want := text(other)
			if a.e != api.OK && i != 4 {
				t.Fatalf("the call %d: error %d", i, a.e)
			}
			parts, spoils := lists(&a)
			apartFrom(t, want, parts, spoils)
			parts, spoils = outer(&a)
			apartFrom(t, want, parts, spoils)
			if h.said() != was || text(other) != want {
				t.Fatalf("an answer shares memory: %s", want)
			}
		}
	}
}

// R3: nothing that is handed in is kept: what was answered stays when that is written over.
func TestAnswersStay(t *testing.T) {
	for c := range 5 {
		for _, h := range cases(t) {
			a := h.calls()[c]()
			was := text(a)
			for _, f := range h.spoils {
				f()
			}
			if text(a) != was {
				t.Fatalf("the answer %s is %+v now", was, a)
			}
		}
	}
}

// R5: the same each time, whatever was called between.
func TestTheSameEachTime(t *testing.T) {
	between := func() {
		for _, f := range hands(busy(), wish(), whole(5, 70000, 390), fill(7, 70), nil, 5).calls() {
			f()
		}
	}
	for _, h := range append(cases(t), refused(t)...) {
		for _, f := range h.calls() {
			want := text(f())
			between()
			if got := text(f()); got != want {
				t.Fatalf("%s, then %s", want, got)
			}
		}
	}
}

// R3: nil and empty lists are one, in what is handed in.
func TestNilAndEmptyAreOne(t *testing.T) {
	empty := api.Agent{Node: 2, Next: 1, Seen: []api.Seen{}, Parts: []api.Bundle{}}
	if agent.Check(empty) != api.OK || !agent.Same(empty, first(2)) || !agent.Same(first(2), empty) {
		t.Error("Check, Same")
	}
	for _, b := range []api.Bundle{whole(3, 4, 5), part(whole(3, 4, 5), 1, 2), to(1, whole(3, 4, 5)), {}} {
		wants(t, "Arrive", ofArrive(agent.Arrive(empty, b, 5)), ofArrive(agent.Arrive(first(2), b, 5)))
	}
	wants(t, "Make", ofMake(agent.Make(empty, wish(), []byte{1}, 5)), ofMake(agent.Make(first(2), wish(), []byte{1}, 5)))
	refuses(t, "Make of no bytes", ofMake(agent.Make(empty, wish(), []byte{}, 5)), api.ErrArg)
	wants(t, "Expire", of(agent.Expire(empty, 5)), answer{a: first(2)})
	wants(t, "Save", ofSave(agent.Save(empty)), ofSave(agent.Save(first(2))))
	refuses(t, "Load", of(agent.Load(2, []api.File{})), api.ErrAgent)
	refuses(t, "Load of no bytes", of(agent.Load(2, []api.File{{Name: "a/next", Bytes: []byte{}}, {Name: "a/parts", Bytes: []byte{}}, {Name: "a/seen", Bytes: []byte{}}})), api.ErrAgent)
	b := whole(3, 4, 5)
	b.Payload = []byte{}
	wants(t, "Arrive of no bytes", ofArrive(agent.Arrive(empty, b, 5)), answer{a: first(2), v: api.Verdict{Kind: api.VerdictBad}})
}

// R1: lists that are far too long are refused at once.
func TestLongLists(t *testing.T) {
	seen := make([]api.Seen, 1<<20)
	parts := make([]api.Bundle, 1<<18)
	for i := range seen {
		seen[i] = one(1+i%6, uint32(1+i), i%300, 50)
	}
	for i := range parts {
		parts[i] = part(whole(3, uint32(1+i), 9), 0, 8)
	}
	for _, a := range []api.Agent{sight(busy(), seen...), parted(busy(), parts...)} {
		for _, e := range []api.Errno{agent.Check(a), of(agent.Expire(a, 5)).e, ofArrive(agent.Arrive(a, whole(3, 4, 5), 5)).e, ofMake(agent.Make(a, wish(), []byte{1}, 5)).e, ofSave(agent.Save(a)).e} {
			if e != api.ErrAgent {
				t.Errorf("error %d", e)
			}
		}
		if !agent.Same(a, a) {
			t.Error("Same")
		}
	}
	b := whole(3, 4, 5)
	b.Payload = make([]byte, 1<<24)
	wants(t, "a huge Payload", ofArrive(agent.Arrive(busy(), b, 5)), answer{a: busy(), v: api.Verdict{Kind: api.VerdictBad}})
	refuses(t, "a huge payload", ofMake(agent.Make(busy(), wish(), b.Payload, 5)), api.ErrArg)
}
