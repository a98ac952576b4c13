package custody_test

import (
	"slices"
	"testing"

	"heliograph/api"
	"heliograph/custody"
)

// roomOf is a list with something ahead of it and behind its end, and all of that.
func roomOf[T any](l []T, filler T) (in, all []T) {
	all = slices.Concat(slices.Repeat([]T{filler}, 5), l, slices.Repeat([]T{filler}, 40))
	return all[5 : 5+len(l)], all
}

// handed is what is handed in, with room about each list of it; spoils writes over all of that.
type handed struct {
	c      api.Custody
	b      api.Bundle
	k      api.Key
	l      []api.File
	now    int
	all    []any
	spoils []func()
}

// roomy makes room about a list of what is handed in.
func roomy[T any](h *handed, l *[]T, filler T) {
	in, all := roomOf(*l, filler)
	*l = in
	h.all = append(h.all, all)
	h.spoils = append(h.spoils, func() { clear(all) })
}

func hands(c api.Custody, b api.Bundle, k api.Key, l []api.File, now int) *handed {
	h := &handed{c: deep(c), b: b, k: k, l: deepFiles(l), now: now}
	for i := range h.c.List {
		roomy(h, &h.c.List[i].Payload, 0xee)
	}
	for i := range h.l {
		roomy(h, &h.l[i].Bytes, 0xdd)
	}
	roomy(h, &h.c.List, whole(6, 666, 6))
	roomy(h, &h.l, api.File{Name: "x", Bytes: fill(1, 9)})
	roomy(h, &h.b.Payload, 0xcc)
	return h
}

// said tells all that was handed in, the room about it, too.
func (h *handed) said() string {
	return text(h.c) + text(h.b) + text(h.l) + text(h.all)
}

// calls are all calls that answer lists.
func (h *handed) calls() []func() answer {
	return []func() answer{
		func() answer { return of(custody.Insert(h.c, h.b)) },
		func() answer { return of(custody.Remove(h.c, h.k)) },
		func() answer { return ofFind(custody.Find(h.c, h.k)) },
		func() answer { return ofExpire(custody.Expire(h.c, h.now)) },
		func() answer { return ofSave(custody.Save(h.c)) },
		func() answer { return of(custody.Load(h.l)) },
	}
}

// cases are custody by which each of the ways is gone.
func cases(t *testing.T) []*handed {
	t.Helper()
	var out []*handed
	fresh := whole(2, 77, 30)
	for _, c := range []api.Custody{{}, list(example()...), unlike(), many(maxBundles - 1), many(maxBundles), holding(t, 29, maxHeld)} {
		for _, i := range []int{0, len(c.List) / 2, len(c.List) - 1} {
			k, now := api.Key{}, 0
			if len(c.List) > 0 {
				i = max(0, i)
				k, now = custody.Key(c.List[i]), c.List[i].Created+c.List[i].Lifetime
			}
			out = append(out, hands(c, fresh, k, saved(t, c), now))
		}
	}
	return out
}

// refused are those that are answered by an error, of each kind.
func refused(t *testing.T) []*handed {
	t.Helper()
	var out []*handed
	bad := whole(2, 77, 30)
	bad.Total = 29
	for _, c := range wrongSome(t) {
		out = append(out, hands(c, bad, api.Key{Source: 5, Seq: 70000, Offset: 30}, nil, 1300))
	}
	l := saved(t, unlike())
	slices.Reverse(l)
	out = append(out, hands(unlike(), bad, api.Key{}, l, 0), hands(unlike(), unlike().List[2], api.Key{}, l[1:], 0))
	l = saved(t, unlike())
	l[3].Bytes[1] = 77
	return append(out, hands(many(maxBundles), whole(2, 77, 30), api.Key{}, l, 0), hands(holding(t, 29, maxHeld), whole(2, 77, 30), api.Key{}, l[:3], 0))
}

// R3: no call changes what it is handed, the room behind its end neither; what is refused neither.
func TestCallsLeaveWhatTheyAreHanded(t *testing.T) {
	for _, h := range append(cases(t), refused(t)...) {
		was := h.said()
		for _, f := range h.calls() {
			f()
		}
		custody.Check(h.c)
		custody.Order(h.c)
		custody.Key(h.b)
		custody.Same(h.c, h.c)
		custody.Same(h.c, unlike())
		custody.Same(unlike(), h.c)
		if h.said() != was {
			t.Fatalf("what was handed in is %s now, it was %s", h.said(), was)
		}
	}
}

// lists are all lists of bytes of an answer: what each one has, and what writes over it, and over the room behind its end.
func lists(a *answer) (parts []func() string, spoils []func()) {
	for i := range a.c.List {
		add(&parts, &spoils, &a.c.List[i].Payload, 0xee)
	}
	for i := range a.gone {
		add(&parts, &spoils, &a.gone[i].Payload, 0xdd)
	}
	for i := range a.l {
		add(&parts, &spoils, &a.l[i].Bytes, 0xcc)
	}
	add(&parts, &spoils, &a.b.Payload, 0xbb)
	return parts, spoils
}

func add[T any](parts *[]func() string, spoils *[]func(), l *[]T, filler T) {
	*parts = append(*parts, func() string { return text(*l) })
	*spoils = append(*spoils, func() {
		all := (*l)[:cap(*l)]
		for i := range all {
			all[i] = filler
		}
	})
}

// outer are the lists of an answer whose parts have lists themselves.
func outer(a *answer) (parts []func() string, spoils []func()) {
	add(&parts, &spoils, &a.c.List, whole(6, 666, 6))
	add(&parts, &spoils, &a.gone, whole(5, 555, 5))
	add(&parts, &spoils, &a.l, api.File{Name: "x"})
	return parts, spoils
}

// apartFrom spoils one list after another, and asks whether the others stay.
func apartFrom(t *testing.T, what string, parts []func() string, spoils []func()) {
	t.Helper()
	for i, spoil := range spoils {
		told := make([]string, len(parts))
		for j, p := range parts {
			told[j] = p()
		}
		spoil()
		for j, p := range parts {
			if j != i && p() != told[j] {
				t.Fatalf("the lists %d and %d share memory: %s", i, j, what)
			}
		}
	}
}

// R3: what is answered is new memory: no list of it shares any with another one, with what was handed in, or with another answer.
func TestAnswersShareNothing(t *testing.T) {
	for _, h := range cases(t) {
		was := h.said()
		for _, f := range h.calls() {
			other, a := f(), f()
			want := text(other)
			parts, spoils := lists(&a)
			apartFrom(t, want, parts, spoils)
			parts, spoils = outer(&a)
			apartFrom(t, want, parts, spoils)
			if h.said() != was || text(other) != want {
				t.Fatalf("an answer shares memory: %s", want)
			}
		}
		l := custody.Order(h.c)
		clear(l[:cap(l)])
		if !slices.Equal(custody.Order(h.c), toldOrder(h.c)) || h.said() != was {
			t.Fatalf("Order of %s shares memory", was)
		}
	}
}

// R3: nothing that is handed in is kept: what was answered stays when that is written over.
func TestAnswersStay(t *testing.T) {
	for c := range 6 {
		for _, h := range cases(t) {
			a := h.calls()[c]()
			was := text(a)
			for _, f := range h.spoils {
				f()
			}
			if text(a) != was {
				t.Fatalf("the answer %s is %+v now", was, a)
			}
		}
	}
}

// R5: the same each time, whatever was called between.
func TestTheSameEachTime(t *testing.T) {
	for _, h := range cases(t) {
		for _, f := range h.calls() {
			want, order := text(f()), text(custody.Order(h.c))
			custody.Expire(unlike(), 1300)
			custody.Insert(unlike(), whole(4, 44, 4))
			custody.Load(saved(t, unlike()))
			if got := text(f()); got != want || text(custody.Order(h.c)) != order {
				t.Fatalf("%s, then %s", want, got)
			}
		}
	}
}

// R3: nil and empty lists are one, in what is handed in.
func TestNilAndEmptyAreOne(t *testing.T) {
	empty := api.Custody{List: []api.Bundle{}}
	b := example()[0]
	if custody.Check(empty) != api.OK || !custody.Same(empty, api.Custody{}) || len(custody.Order(empty)) > 0 {
		t.Error("Check, Same, Order")
	}
	wants(t, "Insert", of(custody.Insert(empty, b)), answer{c: list(b)})
	refuses(t, "Remove", of(custody.Remove(empty, custody.Key(b))), api.ErrNone)
	refuses(t, "Find", ofFind(custody.Find(empty, custody.Key(b))), api.ErrNone)
	wants(t, "Expire", ofExpire(custody.Expire(empty, 5)), answer{})
	wants(t, "Save", ofSave(custody.Save(empty)), answer{})
	wants(t, "Load", of(custody.Load([]api.File{})), answer{})
	b.Payload = []byte{}
	refuses(t, "Insert of no bytes", of(custody.Insert(empty, b)), api.ErrBundle)
	refuses(t, "Load of no bytes", of(custody.Load([]api.File{{Name: "b/1/1/0", Bytes: []byte{}}})), api.ErrCustody)
}
