package cbor_test

import (
	"fmt"
	"math"
	"slices"
	"strings"
	"testing"

	"heliograph/api"
	"heliograph/cbor"
)

// P7.1: Check of items that may be, and of items that may not.
func TestCheck(t *testing.T) {
	for what, x := range right() {
		if e := cbor.Check(x); e != api.OK {
			t.Errorf("%s: Check: %d", what, e)
		}
	}
	for what, x := range wrong() {
		if e := cbor.Check(x); e != api.ErrItem {
			t.Errorf("%s: Check: %d, want ErrItem", what, e)
		}
	}
}

// P7.1: the Kinds and the errors have the numbers that the chapter says.
func TestKinds(t *testing.T) {
	if api.ItemNumber != 1 || api.ItemBytes != 2 || api.ItemText != 3 || api.ItemList != 4 || api.ErrItem != 170 || api.MaxDeep != 4 || api.MaxItems != 64 || api.MaxBlock != 512 {
		t.Error("a number of package api is another one than the chapter says")
	}
	for kind := -300; kind <= 300; kind++ {
		want := api.ErrItem
		if kind >= 1 && kind <= 4 {
			want = api.OK
		}
		if e := cbor.Check(api.Item{Kind: kind}); e != want {
			t.Errorf("Check of Kind %d: %d, want %d", kind, e, want)
		}
	}
}

// P7.1: each number of bytes and of items around the limits, and each depth.
func TestCheckOfEachSize(t *testing.T) {
	asks := func(what string, x api.Item, may bool) {
		t.Helper()
		want := api.ErrItem
		if may {
			want = api.OK
		}
		if e := cbor.Check(x); e != want {
			t.Errorf("%s: Check: %d, want %d", what, e, want)
		}
	}
	for n := range 600 {
		asks(fmt.Sprint(n, " bytes"), raw(fill(n, n)...), n <= 512)
		asks(fmt.Sprint("a text of ", n), text(strings.Repeat("t", n)), n <= 512)
		asks(fmt.Sprint("a text of twice ", n), text(strings.Repeat("\u00e4", n)), n <= 256)
	}
	for n := range 130 {
		asks(fmt.Sprint(n, " items"), list(many(n)...), n <= 64)
		asks(fmt.Sprint(n, " lists of 64 items"), list(slices.Repeat([]api.Item{list(many(64)...)}, n)...), n <= 64)
		asks(fmt.Sprint(n, " items within"), list(list(many(n)...)), n <= 64)
	}
	for n := range 12 {
		asks(fmt.Sprint("a number within ", n), within(n, number(1)), n <= 3)
		asks(fmt.Sprint("bytes within ", n), within(n, raw(1)), n <= 3)
		asks(fmt.Sprint("a text within ", n), within(n, text("a")), n <= 3)
		asks(fmt.Sprint("an empty list within ", n), within(n, list()), n <= 3)
		for at := range 5 {
			l := slices.Insert(many(4), at, within(n, number(1)))
			asks(fmt.Sprint("at ", at, " a number within ", n), list(l...), n <= 2)
		}
	}
}

// R1: an item that has itself among its Items is deeper than any limit.
func TestCheckOfAnItemWithinItself(t *testing.T) {
	l := make([]api.Item, 2)
	l[0], l[1] = number(1), list(l...)
	if e := cbor.Check(l[1]); e != api.ErrItem {
		t.Errorf("Check: %d", e)
	}
	if b, e := cbor.Encode(l[1]); e != api.ErrItem || len(b) != 0 {
		t.Errorf("Encode: %s, error %d", cut(b), e)
	}
}

// P7.1: Same, of each two of many items, that may be and that may not.
func TestSame(t *testing.T) {
	var all []api.Item
	for _, m := range []map[string]api.Item{right(), wrong()} {
		for what, x := range m {
			if what != "MaxItems lists" && what != "65537 items" {
				all = append(all, x)
			}
		}
	}
	for i, a := range all {
		for j, b := range all {
			if got := cbor.Same(a, b); got != alike(a, b) || i == j && !got {
				t.Errorf("Same of %s and %s: %t", short(a), short(b), got)
			}
		}
		if !cbor.Same(a, deep(a)) {
			t.Errorf("Same of %s and its copy: false", short(a))
		}
	}
}

// P7.1: Same asks each field, whatever the Kind is, Items and all; nil and empty are one.
func TestSameAsksEachField(t *testing.T) {
	for _, kind := range []int{0, 1, 2, 3, 4, 9, -1} {
		x := api.Item{Kind: kind, Num: 7, Bytes: []byte{1, 2}, Items: []api.Item{number(1), list(raw(3), text("x"))}}
		for what, change := range map[string]func(y *api.Item){
			"Kind":             func(y *api.Item) { y.Kind++ },
			"Kind, high":       func(y *api.Item) { y.Kind += 1 << 32 },
			"Num":              func(y *api.Item) { y.Num++ },
			"Num, high":        func(y *api.Item) { y.Num |= 1 << 63 },
			"a byte":           func(y *api.Item) { y.Bytes[1]++ },
			"a byte more":      func(y *api.Item) { y.Bytes = append(y.Bytes, 0) },
			"a byte less":      func(y *api.Item) { y.Bytes = y.Bytes[:1] },
			"no bytes":         func(y *api.Item) { y.Bytes = nil },
			"an item":          func(y *api.Item) { y.Items[0].Num = 2 },
			"an item more":     func(y *api.Item) { y.Items = append(y.Items, api.Item{}) },
			"an item less":     func(y *api.Item) { y.Items = y.Items[:1] },
			"no items":         func(y *api.Item) { y.Items = nil },
			"the order":        func(y *api.Item) { slices.Reverse(y.Items) },
			"a byte within":    func(y *api.Item) { y.Items[1].Items[0].Bytes[0]++ },
			"a Kind within":    func(y *api.Item) { y.Items[1].Items[1].Kind = 2 },
			"an item within":   func(y *api.Item) { y.Items[1].Items = y.Items[1].Items[:1] },
			"the order within": func(y *api.Item) { slices.Reverse(y.Items[1].Items) },
		} {
			y := deep(x)
			if !cbor.Same(x, y) {
				t.Fatalf("Kind %d: Same of a copy: false", kind)
			}
			change(&y)
			if cbor.Same(x, y) || cbor.Same(y, x) {
				t.Errorf("Kind %d, another one in %s: Same: true", kind, what)
			}
		}
		bare := api.Item{Kind: kind}
		empty := api.Item{Kind: kind, Bytes: []byte{}, Items: []api.Item{}}
		if !cbor.Same(bare, empty) || !cbor.Same(empty, bare) || !cbor.Same(list(bare), list(empty)) {
			t.Errorf("Kind %d: nil and empty are not the same", kind)
		}
	}
}

// P7.1: Same of items that are as deep as the limits of all promises have it.
func TestSameAndListOfTheDeepest(t *testing.T) {
	a, b, c := within(1<<16-2, number(1)), within(1<<16-2, number(1)), within(1<<16-2, number(2))
	if !cbor.Same(a, b) || cbor.Same(a, c) {
		t.Error("Same of deep items is wrong")
	}
	if !cbor.Same(cbor.List(a, c), list(b, c)) {
		t.Error("List of deep items is wrong")
	}
}

// P7.1: Number, Bytes and List answer that item, all other fields zero, whether it may be or not.
func TestMade(t *testing.T) {
	asks := func(what string, got, want api.Item) {
		t.Helper()
		if !alike(got, want) {
			t.Errorf("%s: %s, want %s", what, short(got), short(want))
		}
	}
	for _, n := range append(steps(), 1<<20, math.MaxUint16) {
		asks("Number", cbor.Number(n), api.Item{Kind: 1, Num: n})
	}
	for _, n := range []int{0, 1, 23, 24, 255, 256, 511, 512, 513, 65536} {
		asks("Bytes", cbor.Bytes(fill(n, n)), api.Item{Kind: 2, Bytes: fill(n, n)})
	}
	asks("Bytes of nil", cbor.Bytes(nil), api.Item{Kind: 2})
	asks("Bytes of no UTF-8", cbor.Bytes([]byte{0xff, 0}), api.Item{Kind: 2, Bytes: []byte{0xff, 0}})
	for _, n := range []int{0, 1, 23, 24, 63, 64, 65, 300} {
		asks("List", cbor.List(many(n)...), api.Item{Kind: 4, Items: many(n)})
	}
	asks("List of none", cbor.List(), api.Item{Kind: 4})
	asks("List of empty", cbor.List([]api.Item{}...), api.Item{Kind: 4})
	for what, x := range wrong() {
		asks("List of "+what, cbor.List(x, number(1), x), api.Item{Kind: 4, Items: []api.Item{x, number(1), x}})
	}
	for what, x := range right() {
		asks("List of "+what, cbor.List(number(1), x), api.Item{Kind: 4, Items: []api.Item{number(1), x}})
	}
	x := list(number(1))
	for n := range 8 {
		x = list(x, number(uint64(n)))
		asks("a list of a list", cbor.List(x), list(x))
	}
}
