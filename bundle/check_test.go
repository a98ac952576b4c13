package bundle_test

import (
	"fmt"
	"math"
	"testing"

	"heliograph/api"
	"heliograph/bundle"
)

// P9.1: the numbers of package api are those that the chapter and its limits say.
func TestNumbers(t *testing.T) {
	if api.ErrBundle != 190 || api.ErrSum != 130 || api.MaxHops != 16 || api.MaxNodes != 6 || api.MaxTick != 1048576 || api.MaxPayload != 400 || api.MaxBlock != 512 {
		t.Error("a number of package api is another one than the document says")
	}
}

// P9.1: the chapter's examples.
func TestCheckExamples(t *testing.T) {
	asks := func(what string, b api.Bundle, want api.Errno) {
		t.Helper()
		if e := bundle.Check(b); e != want {
			t.Errorf("%s: Check: %d, want %d", what, e, want)
		}
	}
	asks("the example", example(), api.OK)
	b := example()
	b.HopLimit = 0
	asks("HopLimit 0", b, api.ErrBundle)
	b = example()
	b.Total, b.Offset = 3, 2
	asks("Total 3 and Offset 2", b, api.ErrBundle)
	b = example()
	b.Priority = 3
	asks("Priority 3", b, api.ErrBundle)
}

// P9.1: each field just within and just outside of what may be.
func TestCheckAtTheEdges(t *testing.T) {
	may, not := 0, 0
	each(func(what string, b api.Bundle, ok bool) {
		want := api.ErrBundle
		if ok {
			want = api.OK
			may++
		} else {
			not++
		}
		if e := bundle.Check(b); e != want {
			t.Errorf("%s: Check: %d, want %d", what, e, want)
		}
	})
	if may < 50 || not < 150 {
		t.Errorf("%d that may be, %d that may not", may, not)
	}
}

// P9.1: the edges hold for bundles with other numbers, too.
func TestCheckOfOthers(t *testing.T) {
	for _, b := range []api.Bundle{example(), unlike(), greatest(), least()} {
		if e := bundle.Check(b); e != api.OK {
			t.Errorf("%v: Check: %d", b, e)
		}
		for _, f := range intFields() {
			low, high := f.least-1, f.most+1
			switch f.name {
			case "Hops":
				high = b.HopLimit + 1
			case "Offset":
				high = b.Total - len(b.Payload) + 1
			case "Total":
				low = b.Offset + len(b.Payload) - 1
			}
			for _, n := range []int{low, high} {
				c := b
				*f.of(&c) = n
				if e := bundle.Check(c); e != api.ErrBundle {
					t.Errorf("%v, %s %d: Check: %d, want ErrBundle", b, f.name, n, e)
				}
			}
		}
	}
}

// P9.1: each place and length of a payload in each whole of some lengths.
func TestCheckOfEachPiece(t *testing.T) {
	all := fill(3, 402)
	for _, total := range []int{-1, 0, 1, 2, 3, 7, 24, 399, 400, 401} {
		for n := 0; n <= 402; n += 1 + n/9 {
			for offset := -2; offset <= 402; offset += 1 + max(0, offset/9) {
				b := example()
				b.Offset, b.Total, b.Payload = offset, total, all[:n]
				want := api.ErrBundle
				if total >= 1 && total <= 400 && n >= 1 && offset >= 0 && offset+n <= total {
					want = api.OK
				}
				if e := bundle.Check(b); e != want {
					t.Errorf("%d bytes from %d on of %d: Check: %d, want %d", n, offset, total, e, want)
				}
			}
		}
	}
}

// P9.1: two bundles are the same, if all their fields are; whether they may be is not asked.
func TestSame(t *testing.T) {
	none := api.Bundle{}
	var l []api.Bundle
	each(func(_ string, b api.Bundle, _ bool) { l = append(l, b) })
	for _, b := range append(l, none, unlike(), greatest(), least()) {
		if !bundle.Same(b, b) || !bundle.Same(b, deep(b)) {
			t.Errorf("%v is not the same as itself", b)
		}
	}
	for i, a := range l {
		for j, b := range l {
			if bundle.Same(a, b) != alike(a, b) {
				t.Errorf("%d, %d: Same of %v and %v: %v", i, j, a, b, bundle.Same(a, b))
			}
		}
	}
}

// P9.1: one field that is another one is enough, whichever, and by whichever bit.
func TestSameOfOneFieldChanged(t *testing.T) {
	differ := func(what string, a, b api.Bundle) {
		t.Helper()
		if bundle.Same(a, b) || bundle.Same(b, a) {
			t.Errorf("%s changed: the same", what)
		}
	}
	for _, b := range []api.Bundle{{}, example(), unlike()} {
		for bit := range 64 {
			for _, f := range intFields() {
				c := deep(b)
				*f.of(&c) ^= 1 << bit
				differ(fmt.Sprint(f.name, " by bit ", bit), b, c)
			}
			c := deep(b)
			c.Seq ^= 1 << (bit % 32)
			differ(fmt.Sprint("Seq by bit ", bit), b, c)
		}
		for i := range b.Payload {
			c := deep(b)
			c.Payload[i] ^= 0x80
			differ(fmt.Sprint("the payload at ", i), b, c)
		}
		c := deep(b)
		c.Payload = append(c.Payload, 0)
		differ("the payload's length", b, c)
	}
}

// P9.1: what one field has lost and another one has got is no less a change.
func TestSameOfFieldsSwapped(t *testing.T) {
	fields := intFields()
	for i, f := range fields {
		for _, g := range fields[:i] {
			a, b := api.Bundle{}, api.Bundle{}
			*f.of(&a), *g.of(&b) = 3, 3
			if bundle.Same(a, b) {
				t.Errorf("3 as %s, and as %s: the same", f.name, g.name)
			}
		}
		a, b := api.Bundle{Seq: 3}, api.Bundle{}
		*f.of(&b) = 3
		if bundle.Same(a, b) {
			t.Errorf("3 as Seq, and as %s: the same", f.name)
		}
	}
}

// P9.1, R3: nil and empty payloads are one; the room behind a payload's end does not count.
func TestSameOfNilAndEmpty(t *testing.T) {
	a, b := example(), example()
	a.Payload, b.Payload = nil, []byte{}
	if !bundle.Same(a, b) || !bundle.Same(b, a) {
		t.Error("nil and empty payloads are not the same")
	}
	a.Payload, b.Payload = []byte{5, 6, 7}[:2], []byte{5, 6}
	if !bundle.Same(a, b) || !bundle.Same(b, a) {
		t.Error("the room behind the end counts")
	}
}

// P9.1: Id, of all bundles.
func TestId(t *testing.T) {
	if got := bundle.Id(unlike()); got != (api.BundleId{Source: 5, Seq: 70000}) {
		t.Errorf("Id: %v", got)
	}
	if got := bundle.Id(api.Bundle{}); got != (api.BundleId{}) {
		t.Errorf("Id of nothing: %v", got)
	}
	each(func(what string, b api.Bundle, _ bool) {
		if got := bundle.Id(b); got.Source != b.Source || got.Seq != b.Seq {
			t.Errorf("%s: Id: %v", what, got)
		}
	})
	if got := bundle.Id(api.Bundle{Source: math.MinInt, Seq: math.MaxUint32}); got != (api.BundleId{Source: math.MinInt, Seq: math.MaxUint32}) {
		t.Errorf("Id of what may not be: %v", got)
	}
}

// P9.1: Whole, of all bundles: whether the payload has Total bytes, and nothing else.
func TestWhole(t *testing.T) {
	asks := func(what string, b api.Bundle, want bool) {
		t.Helper()
		if got := bundle.Whole(b); got != want {
			t.Errorf("%s: Whole: %v", what, got)
		}
	}
	asks("the example", example(), true)
	asks("a piece", unlike(), false)
	asks("the greatest", greatest(), true)
	asks("nothing", api.Bundle{}, true)
	asks("no byte of 0", api.Bundle{Payload: []byte{}}, true)
	asks("no byte of 1", api.Bundle{Total: 1}, false)
	asks("no byte of -1", api.Bundle{Total: -1}, false)
	asks("all bytes, Offset 1", api.Bundle{Total: 2, Offset: 1, Payload: []byte{5, 6}}, true)
	asks("too many for any bundle", api.Bundle{Total: 401, Payload: fill(1, 401)}, true)
	asks("more than all", api.Bundle{Total: 1, Payload: []byte{5, 6}}, false)
	asks("room for all", api.Bundle{Total: 3, Payload: []byte{5, 6, 7}[:2]}, false)
	each(func(what string, b api.Bundle, _ bool) { asks(what, b, len(b.Payload) == b.Total) })
}

// P9.1: at the end of its lifetime a bundle has expired, one tick ahead it has not.
func TestExpired(t *testing.T) {
	for _, r := range []struct{ created, lifetime int }{{0, 10}, {0, 1}, {1, 1}, {5, 10}, {0, 1 << 20}, {1 << 20, 1}, {1 << 20, 1 << 20}, {1000, 300}} {
		b := example()
		b.Created, b.Lifetime = r.created, r.lifetime
		end := r.created + r.lifetime
		for _, now := range []int{math.MinInt, -1, 0, 1, r.created - 1, r.created, r.lifetime, end - 1, end, end + 1, 1 << 20, 1<<20 + 1, 1 << 40, math.MaxInt} {
			if got := bundle.Expired(b, now); got != (now >= end) {
				t.Errorf("Created %d, Lifetime %d: Expired at %d: %v", r.created, r.lifetime, now, got)
			}
		}
	}
	if bundle.Expired(example(), 9) || !bundle.Expired(example(), 10) {
		t.Error("the chapter's example")
	}
}

// P9.1: what may not be has not expired at any moment, also where its end would be no int.
func TestExpiredOfWhatMayNotBe(t *testing.T) {
	moments := []int{math.MinInt, -1, 0, 1, 9, 10, 11, 1 << 20, 1 << 21, math.MaxInt}
	each(func(what string, b api.Bundle, may bool) {
		for _, now := range moments {
			if got := bundle.Expired(b, now); got != (may && now >= b.Created+b.Lifetime) {
				t.Errorf("%s: Expired at %d: %v", what, now, got)
			}
		}
	})
	for _, r := range [][2]int{{math.MaxInt, 1}, {math.MaxInt, math.MaxInt}, {1, math.MaxInt}, {math.MinInt, 1}, {-1, 5}, {1 << 20, 1<<20 + 1}, {1<<20 + 1, 1}} {
		b := example()
		b.Created, b.Lifetime = r[0], r[1]
		for _, now := range moments {
			if bundle.Expired(b, now) {
				t.Errorf("Created %d, Lifetime %d: Expired at %d", r[0], r[1], now)
			}
		}
	}
}
