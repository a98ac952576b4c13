package custody_test

import (
	"fmt"
	"math"
	"slices"
	"testing"

	"heliograph/api"
	"heliograph/bundle"
	"heliograph/custody"
)

// P17.1: the numbers of package api are those that the chapter and its limits say.
func TestNumbers(t *testing.T) {
	if api.MaxHeld != maxHeld || api.MaxBundles != maxBundles || api.ErrCustody != 270 || api.ErrBundle != 190 || api.ErrNone != 4 || api.ErrThere != 5 || api.ErrFull != 6 {
		t.Error("a number of package api is another one than the document says")
	}
}

// P17.1: Check of custody that may be, and of custody that may not be for one reason.
func TestCheck(t *testing.T) {
	for what, c := range fine(t) {
		if e := custody.Check(c); e != api.OK || !mayBe(c) {
			t.Errorf("%s: error %d", what, e)
		}
	}
	for what, c := range wrongCustody(t) {
		if e := custody.Check(c); e != api.ErrCustody || mayBe(c) {
			t.Errorf("%s: error %d, want ErrCustody", what, e)
		}
	}
}

// P17.1: as many bundles as there may be, and each number fewer, and more.
func TestCheckOfEachLength(t *testing.T) {
	for n := range 48 {
		want := api.OK
		if n > maxBundles {
			want = api.ErrCustody
		}
		if e := custody.Check(many(n)); e != want {
			t.Errorf("%d bundles: error %d, want %d", n, e, want)
		}
	}
	l := slices.Repeat(many(maxBundles).List, 4000)
	if custody.Check(list(l...)) != api.ErrCustody || custody.Check(list(make([]api.Bundle, 1<<18)...)) != api.ErrCustody {
		t.Error("very many bundles may be")
	}
}

// P17.1: as many bytes as there may be, together, and some fewer, and more; each place counts.
func TestCheckOfEachSize(t *testing.T) {
	for _, n := range []int{29, 30, 31, maxBundles} {
		for size := maxHeld - 30; size <= maxHeld+30; size++ {
			want := api.OK
			if size > maxHeld {
				want = api.ErrCustody
			}
			if e := custody.Check(holding(t, n, size)); e != want {
				t.Errorf("%d bundles of %d bytes: error %d, want %d", n, size, e, want)
			}
		}
	}
	full := holding(t, maxBundles, maxHeld)
	for i, b := range full.List {
		more := changed(full, func(l []api.Bundle) []api.Bundle {
			l[i] = whole(b.Source, b.Seq, len(b.Payload)+1)
			return l
		})
		if custody.Check(full) != api.OK || custody.Check(more) != api.ErrCustody {
			t.Errorf("one byte more at %d", i)
		}
	}
}

// P17.1: two bundles of one key at whichever places, alike or not but for the key; whose keys part in one number may be.
func TestCheckOfEachPair(t *testing.T) {
	for i := range maxBundles {
		for j := range maxBundles {
			c := many(maxBundles)
			b := c.List[j]
			if i == j {
				continue
			}
			b.Dest, b.Created, b.Lifetime, b.HopLimit, b.Hops, b.Priority, b.Total, b.Payload = 6, 7, 8, 9, 5, 1, 395, fill(3, 3)
			twice := changed(c, func(l []api.Bundle) []api.Bundle { l[i] = b; return l })
			if custody.Check(twice) != api.ErrCustody {
				t.Errorf("the key of %d at %d, too", j, i)
			}
			for k, f := range []func(b *api.Bundle){func(b *api.Bundle) { b.Source += 3 }, func(b *api.Bundle) { b.Seq += 1 << 16 }, func(b *api.Bundle) { b.Offset++ }} {
				other := b
				f(&other)
				if e := custody.Check(changed(c, func(l []api.Bundle) []api.Bundle { l[i] = other; return l })); e != api.OK {
					t.Errorf("almost the key of %d at %d (%d): error %d", j, i, k, e)
				}
			}
		}
	}
}

// P17.1: Check by chance, held against what is told once more.
func TestCheckHeld(t *testing.T) {
	d := chance(1)
	wrong := 0
	for range 3000 {
		var c api.Custody
		for n := d.IntN(36); n > 0; n-- {
			b := d.bundle()
			b.Seq += uint32(d.IntN(100))
			if d.IntN(60) == 0 {
				b.Hops = 5
			}
			c.List = append(c.List, b)
		}
		want := api.OK
		if !mayBe(c) {
			want = api.ErrCustody
			wrong++
		}
		if e := custody.Check(c); e != want {
			t.Fatalf("Check of %+v: %d, want %d", c, e, want)
		}
	}
	if wrong < 500 || wrong > 2500 {
		t.Errorf("%d of 3000 may not be", wrong)
	}
}

// others are what makes a bundle another one, by one field each.
func others() map[string]func(b *api.Bundle) {
	return map[string]func(b *api.Bundle){
		"Source": func(b *api.Bundle) { b.Source-- }, "Dest": func(b *api.Bundle) { b.Dest-- }, "Seq": func(b *api.Bundle) { b.Seq-- }, "Created": func(b *api.Bundle) { b.Created-- }, "Lifetime": func(b *api.Bundle) { b.Lifetime-- },
		"HopLimit": func(b *api.Bundle) { b.HopLimit-- }, "Hops": func(b *api.Bundle) { b.Hops-- }, "Priority": func(b *api.Bundle) { b.Priority = (b.Priority + 1) % 3 }, "Offset": func(b *api.Bundle) { b.Offset-- }, "Total": func(b *api.Bundle) { b.Total++ },
		"the first byte": func(b *api.Bundle) { b.Payload[0]++ }, "the last byte": func(b *api.Bundle) { b.Payload[len(b.Payload)-1] ^= 128 }, "fewer bytes": func(b *api.Bundle) { b.Payload = b.Payload[:len(b.Payload)-1] }, "more bytes": func(b *api.Bundle) { b.Payload = append(b.Payload, 0) }, "no bytes": func(b *api.Bundle) { b.Payload = nil },
	}
}

// P17.1: Same of two that are the same, and of two that part in one field of one bundle, both ways; whether they may be is not asked.
func TestSame(t *testing.T) {
	for what, f := range others() {
		for i := range unlike().List {
			a := unlike()
			b := changed(a, func(l []api.Bundle) []api.Bundle { f(&l[i]); return l })
			if custody.Same(a, b) || custody.Same(b, a) {
				t.Errorf("%s of %d: the same", what, i)
			}
			if !custody.Same(b, deep(b)) {
				t.Errorf("%s of %d: not the same as itself", what, i)
			}
		}
	}
	for what, c := range fine(t) {
		if !custody.Same(c, deep(c)) {
			t.Errorf("%s: not the same as itself", what)
		}
	}
	for what, c := range wrongCustody(t) {
		if !custody.Same(c, deep(c)) || custody.Same(c, unlike()) || custody.Same(unlike(), c) {
			t.Errorf("%s", what)
		}
	}
}

// P17.1: Same of lists of another length, or in another order.
func TestSameOfLists(t *testing.T) {
	n := len(unlike().List)
	for i := range n {
		less := changed(unlike(), func(l []api.Bundle) []api.Bundle { return slices.Delete(l, i, i+1) })
		cut := changed(unlike(), func(l []api.Bundle) []api.Bundle { return l[:i] })
		twice := changed(unlike(), func(l []api.Bundle) []api.Bundle { return slices.Insert(l, i, l[i]) })
		zero := changed(unlike(), func(l []api.Bundle) []api.Bundle { return slices.Insert(l, i, api.Bundle{}) })
		for _, c := range []api.Custody{less, cut, twice, zero} {
			if custody.Same(c, unlike()) || custody.Same(unlike(), c) {
				t.Errorf("another length, at %d: the same", i)
			}
		}
		for j := range i {
			c := changed(unlike(), func(l []api.Bundle) []api.Bundle { l[i], l[j] = l[j], l[i]; return l })
			if custody.Same(c, unlike()) || custody.Same(unlike(), c) {
				t.Errorf("%d and %d exchanged: the same", i, j)
			}
		}
	}
	if custody.Same(api.Custody{}, list(api.Bundle{})) || custody.Same(list(api.Bundle{}), api.Custody{}) {
		t.Error("nothing and a zero bundle are the same")
	}
}

// P17.1, R3: nil and empty lists are one for Same; the room behind a list's end does not count.
func TestSameOfNilAndEmpty(t *testing.T) {
	if !custody.Same(api.Custody{}, list([]api.Bundle{}...)) || !custody.Same(api.Custody{List: []api.Bundle{}}, api.Custody{}) {
		t.Error("nil and empty are not one")
	}
	if !custody.Same(list(api.Bundle{}), list(api.Bundle{Payload: []byte{}})) {
		t.Error("nil and empty are not one, in a bundle")
	}
	a := api.Custody{List: many(9).List[:4]}
	if !custody.Same(a, many(4)) || !custody.Same(many(4), a) {
		t.Error("the room behind the end counts")
	}
}

// P17.1: Key is Source, Seq and Offset, whatever they are, and nothing else.
func TestKey(t *testing.T) {
	for _, b := range append(unlike().List, many(maxBundles).List...) {
		if k := custody.Key(b); k != (api.Key{Source: b.Source, Seq: b.Seq, Offset: b.Offset}) {
			t.Errorf("Key of %+v: %+v", b, k)
		}
	}
	for _, n := range append(far(), -1, 0, 7) {
		for _, s := range []uint32{0, 1, 1 << 16, math.MaxUint32} {
			b := api.Bundle{Source: n, Dest: 3, Seq: s, Created: 4, Lifetime: 5, HopLimit: 6, Hops: 7, Priority: 8, Offset: n / 3, Total: 10, Payload: fill(1, 11)}
			if k := custody.Key(b); k != (api.Key{Source: n, Seq: s, Offset: n / 3}) {
				t.Errorf("Key of %+v: %+v", b, k)
			}
		}
	}
	if custody.Key(api.Bundle{}) != (api.Key{}) {
		t.Error("Key of a zero bundle")
	}
}

// P17.1: Name of keys with 0, with one digit and with many, the greatest ones, and below 0.
func TestName(t *testing.T) {
	for want, k := range map[string]api.Key{
		"b/0/0/0": {}, "b/1/1/0": {Source: 1, Seq: 1}, "b/1/2/0": {Source: 1, Seq: 2}, "b/6/9/7": {Source: 6, Seq: 9, Offset: 7}, "b/5/10/31": {Source: 5, Seq: 10, Offset: 31},
		"b/10/20/30": {Source: 10, Seq: 20, Offset: 30}, "b/100/1000/10000": {Source: 100, Seq: 1000, Offset: 10000}, "b/6/4294967295/399": {Source: 6, Seq: 4294967295, Offset: 399}, "b/2/2147483648/0": {Source: 2, Seq: 1 << 31},
		"b/-1/0/0": {Source: -1}, "b/0/0/-1": {Offset: -1}, "b/-20/7/-30": {Source: -20, Seq: 7, Offset: -30},
		"b/9223372036854775807/1/-9223372036854775808": {Source: math.MaxInt, Seq: 1, Offset: math.MinInt}, "b/-9223372036854775808/1/9223372036854775807": {Source: math.MinInt, Seq: 1, Offset: math.MaxInt},
	} {
		if got := custody.Name(k); got != want {
			t.Errorf("Name of %+v: %q, want %q", k, got, want)
		}
	}
	for _, n := range append(far(), -10, -9, 9, 10, 11, 99, 100, 101, 123456789) {
		for _, s := range []uint32{0, 9, 10, 99, 100, 65535, 65536, 1000000000, math.MaxUint32} {
			k := api.Key{Source: n, Seq: s, Offset: -(n / 7)}
			if got, want := custody.Name(k), fmt.Sprintf("b/%d/%d/%d", n, s, -(n/7)); got != want {
				t.Errorf("Name of %+v: %q, want %q", k, got, want)
			}
		}
	}
}

// P17.1: the names of bundles that may be are names of files, and no two keys have one name.
func TestNameOfEachKey(t *testing.T) {
	seen := map[string]api.Key{}
	for source := 1; source <= 6; source++ {
		for _, seq := range []uint32{1, 2, 9, 10, 11, 12, 99, 100, 111, 112, 121, 1 << 31, math.MaxUint32} {
			for at := range 400 {
				k := api.Key{Source: source, Seq: seq, Offset: at}
				name := custody.Name(k)
				if other, ok := seen[name]; ok || len(name) > api.MaxName {
					t.Fatalf("%+v and %+v: %q", k, other, name)
				}
				seen[name] = k
			}
		}
	}
	b := whole(6, math.MaxUint32, 1)
	b.Offset, b.Total = 399, 400
	if bundle.Check(b) != api.OK || custody.Name(custody.Key(b)) != "b/6/4294967295/399" {
		t.Error("the longest name")
	}
}
