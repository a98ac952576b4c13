package pieces_test

import (
	"slices"
	"testing"

	"heliograph/api"
	"heliograph/pieces"
)

// roomOf is a list with something ahead of it and behind its end, and all of that.
func roomOf[T any](l []T, filler T) (in, all []T) {
	all = slices.Concat(slices.Repeat([]T{filler}, 5), l, slices.Repeat([]T{filler}, 40))
	return all[5 : 5+len(l)], all
}

// handed is what is handed in, with room about each list of it; spoils writes over all of that.
type handed struct {
	b      api.Bundle
	n      int
	l      []api.Bundle
	all    []any
	spoils []func()
}

// roomy makes room about a list of what is handed in.
func roomy[T any](h *handed, l *[]T, filler T) {
	in, all := roomOf(*l, filler)
	*l = in
	h.all = append(h.all, all)
	h.spoils = append(h.spoils, func() { clear(all) })
}

func hands(b api.Bundle, n int, l []api.Bundle) *handed {
	h := &handed{b: b, n: n, l: deep(l)}
	for i := range h.l {
		roomy(h, &h.l[i].Payload, 0xee)
	}
	roomy(h, &h.l, whole(6))
	roomy(h, &h.b.Payload, 0xcc)
	return h
}

// said tells all that was handed in, the room about it, too.
func (h *handed) said() string {
	return text(h.b) + text(h.l) + text(h.all)
}

// calls are all calls that answer lists.
func (h *handed) calls() []func() answer {
	return []func() answer{
		func() answer { return ofCut(pieces.Cut(h.b, h.n)) },
		func() answer { return ofMissing(pieces.Missing(h.l)) },
		func() answer { return ofJoin(pieces.Join(h.l)) },
	}
}

// cases are bundles and lists by which each of the ways is gone.
func cases(t *testing.T) []*handed {
	t.Helper()
	var out []*handed
	for _, b := range []api.Bundle{example(), whole(1), whole(77), part(whole(390), 30, 60), whole(most)} {
		for _, n := range []int{1, 2, 25, 77, 500} {
			cut, e := pieces.Cut(b, n)
			if e != api.OK {
				t.Fatal(e)
			}
			slices.Reverse(cut)
			out = append(out, hands(b, n, cut), hands(b, n, append(cut, cut...)), hands(b, n, append(cut, b)), hands(b, n, cut[1:]), hands(b, n, cut[:len(cut)/2]), hands(b, n, []api.Bundle{b}))
		}
	}
	return out
}

// refused are those that are answered by an error, of each kind.
func refused() []*handed {
	b := whole(30)
	bad := changed(b, func(b *api.Bundle) { b.Dest = 7 })
	return []*handed{
		hands(b, 0, nil), hands(bad, 3, []api.Bundle{bad}), hands(bad, -1, []api.Bundle{part(b, 3, 4), bad}), hands(b, -1, []api.Bundle{b, changed(b, func(b *api.Bundle) { b.Payload[29]++ })}),
		hands(b, 0, []api.Bundle{b, changed(b, func(b *api.Bundle) { b.Seq++ })}), hands(api.Bundle{}, 5, []api.Bundle{part(b, 0, 29), part(b, 28, 1)}),
	}
}

// R3: no call changes what it is handed, the room behind its end neither; what is refused neither.
func TestCallsLeaveWhatTheyAreHanded(t *testing.T) {
	for _, h := range append(cases(t), refused()...) {
		was := h.said()
		for _, f := range h.calls() {
			f()
		}
		for _, x := range h.l[:min(len(h.l), 4)] {
			pieces.Together(h.b, x)
			pieces.Together(x, h.b)
			pieces.Together(x, h.l[len(h.l)-1])
		}
		if h.said() != was {
			t.Fatalf("what was handed in is %s now, it was %s", h.said(), was)
		}
	}
}

// R2: beside an error all else is zero.
func TestRefused(t *testing.T) {
	for i, h := range refused() {
		for j, f := range h.calls() {
			a := f()
			if a.e != api.OK {
				refuses(t, text([]int{i, j}), a, a.e)
			}
		}
		if ofCut(pieces.Cut(h.b, h.n)).e == api.OK || ofJoin(pieces.Join(h.l)).e == api.OK {
			t.Errorf("%d is not refused", i)
		}
	}
}

// lists are all lists of bytes of an answer: what each one has, and what writes over it, and over the room behind its end.
func lists(a *answer) (parts []func() string, spoils []func()) {
	for i := range a.l {
		add(&parts, &spoils, &a.l[i].Payload, 0xee)
	}
	add(&parts, &spoils, &a.b.Payload, 0xbb)
	add(&parts, &spoils, &a.m, api.Claim{At: 9, N: 9})
	return parts, spoils
}

func add[T any](parts *[]func() string, spoils *[]func(), l *[]T, filler T) {
	*parts = append(*parts, func() string { return text(*l) })
	*spoils = append(*spoils, func() {
		all := (*l)[:cap(*l)]
		for i := range all {
			all[i] = filler
		}
	})
}

// R3: what is answered is new memory: no list of it shares any with another one, with what was handed in, or with another answer.
func TestAnswersShareNothing(t *testing.T) {
	for _, h := range cases(t) {
		if len(h.b.Payload) > 100 && h.n < 20 {
			continue
		}
		was := h.said()
		for _, f := range h.calls() {
			other, a := f(), f()
			want := text(other)
			parts, spoils := lists(&a)
			for i, spoil := range spoils {
				var told []string
				for _, p := range parts {
					told = append(told, p())
				}
				spoil()
				for j, p := range parts {
					if j != i && p() != told[j] {
						t.Fatalf("the lists %d and %d share memory: %s", i, j, want)
					}
				}
			}
			clear(a.l[:cap(a.l)])
			if h.said() != was || text(other) != want {
				t.Fatalf("an answer shares memory: %s", want)
			}
		}
	}
}

// R3: nothing that is handed in is kept: what was answered stays when that is written over.
func TestAnswersStay(t *testing.T) {
	for c := range 3 {
		for _, h := range cases(t) {
			a := h.calls()[c]()
			was := text(a)
			for _, f := range h.spoils {
				f()
			}
			if text(a) != was {
				t.Fatalf("the answer %s is %+v now", was, a)
			}
		}
	}
}

// R5: the same each time, whatever was called between.
func TestTheSameEachTime(t *testing.T) {
	for _, h := range cases(t) {
		for _, f := range h.calls() {
			want := text(f())
			pieces.Cut(whole(9), 2)
			pieces.Missing([]api.Bundle{part(whole(9), 2, 3)})
			pieces.Join([]api.Bundle{whole(9)})
			if got := text(f()); got != want {
				t.Fatalf("%s, then %s", want, got)
			}
		}
	}
}
