package custody_test

import (
	"fmt"
	"math"
	"slices"
	"testing"

	"heliograph/api"
	"heliograph/custody"
)

// P17.3: the chapter's examples.
func TestExpireAndOrderOfTheExample(t *testing.T) {
	l := example()
	if got := custody.Order(list(l...)); !slices.Equal(got, []api.Key{{Source: 1, Seq: 2}, {Source: 1, Seq: 1}, {Source: 1, Seq: 3}}) {
		t.Errorf("Order: %+v", got)
	}
	wants(t, "at 10", ofExpire(custody.Expire(list(l...), 10)), answer{c: list(l[1]), gone: []api.Bundle{l[0], l[2]}})
	wants(t, "at 9", ofExpire(custody.Expire(list(l...), 9)), answer{c: list(l...)})
	wants(t, "at 19", ofExpire(custody.Expire(list(l...), 19)), answer{c: list(l[1]), gone: []api.Bundle{l[0], l[2]}})
	wants(t, "at 20", ofExpire(custody.Expire(list(l...), 20)), answer{gone: l})
}

// P17.3: at the moment at which each bundle expires, one tick ahead of it and one behind it; of none, of some, of all.
func TestExpire(t *testing.T) {
	for what, c := range fine(t) {
		moments := []int{0, 1 << 20, 1 << 21}
		for _, b := range c.List {
			end := b.Created + b.Lifetime
			moments = append(moments, end-1, end, end+1)
		}
		for _, now := range moments {
			wants(t, fmt.Sprint(what, " at ", now), ofExpire(custody.Expire(c, now)), toldExpire(c, now))
		}
	}
}

// P17.3: each one at its own moment, at whichever place, when all others last, or all others have expired.
func TestExpireOfEachPlace(t *testing.T) {
	for i := range maxBundles {
		lasting := changed(many(maxBundles), func(l []api.Bundle) []api.Bundle {
			for j := range l {
				l[j].Created, l[j].Lifetime = 100, 901
			}
			l[i].Created, l[i].Lifetime = 400, 600
			return l
		})
		short := changed(lasting, func(l []api.Bundle) []api.Bundle {
			for j := range l {
				l[j].Lifetime = 899
			}
			l[i].Lifetime = 601
			return l
		})
		without := func(c api.Custody) []api.Bundle { return slices.Delete(deepList(c.List), i, i+1) }
		wants(t, fmt.Sprint("all but ", i, " last, ahead"), ofExpire(custody.Expire(lasting, 999)), answer{c: lasting})
		wants(t, fmt.Sprint("all but ", i, " last"), ofExpire(custody.Expire(lasting, 1000)), answer{c: list(without(lasting)...), gone: lasting.List[i : i+1]})
		wants(t, fmt.Sprint("all but ", i, " have expired"), ofExpire(custody.Expire(short, 1000)), answer{c: list(short.List[i]), gone: without(short)})
		wants(t, fmt.Sprint("all and ", i, " have expired"), ofExpire(custody.Expire(short, 1001)), answer{gone: short.List})
	}
}

// P17.3: at a number that is no moment they have expired as it says: at none below 0, at each one that is great.
func TestExpireAtNoMoment(t *testing.T) {
	longest := whole(2, 2, 2)
	longest.Created, longest.Lifetime = 1<<20, 1<<20
	shortest := whole(2, 3, 2)
	shortest.Created, shortest.Lifetime = 0, 1
	for _, c := range []api.Custody{{}, unlike(), many(maxBundles), list(longest, shortest)} {
		for _, now := range append(far(), -2, -1, 0, 1, 1<<20, 1<<20+1, 1<<21-1, 1<<21, 1<<21+1) {
			wants(t, fmt.Sprint(now), ofExpire(custody.Expire(c, now)), toldExpire(c, now))
		}
		wants(t, "the least", ofExpire(custody.Expire(c, math.MinInt)), answer{c: c})
		wants(t, "the greatest", ofExpire(custody.Expire(c, math.MaxInt)), answer{gone: c.List})
	}
}

// P17.3: the order does not hang on when bundles expire.
func TestExpireKeepsTheOrder(t *testing.T) {
	d := chance(2)
	for range 3000 {
		var c api.Custody
		for range d.IntN(24) {
			if b := d.bundle(); where(c, custody.Key(b)) < 0 {
				c.List = append(c.List, b)
			}
		}
		now := d.IntN(160)
		got := ofExpire(custody.Expire(c, now))
		wants(t, fmt.Sprint(now), got, toldExpire(c, now))
		if len(got.c.List)+len(got.gone) != len(c.List) && got.e == api.OK {
			t.Fatalf("%+v: %+v", c, got)
		}
	}
}

// priorities are bundles with those, whose keys neither rise nor fall.
func priorities(l ...int) api.Custody {
	var c api.Custody
	for i, p := range l {
		b := whole(1+i*5%6, uint32(1+i*7%33), 5)
		b.Priority, b.Dest, b.Created, b.Lifetime, b.Hops = p, 6-i*5%6, 100-i, 1+i, i%4
		c.List = append(c.List, b)
	}
	return c
}

// P17.3: Order with all of one Priority, with each one, with the greater ones at the first places, at the last ones, and mixed.
func TestOrder(t *testing.T) {
	for _, x := range []struct{ is, want []int }{
		{nil, nil}, {[]int{0}, []int{0}}, {[]int{1}, []int{0}}, {[]int{2}, []int{0}},
		{[]int{0, 0, 0, 0}, []int{0, 1, 2, 3}}, {[]int{1, 1, 1, 1}, []int{0, 1, 2, 3}}, {[]int{2, 2, 2, 2}, []int{0, 1, 2, 3}},
		{[]int{0, 1, 2}, []int{2, 1, 0}}, {[]int{2, 1, 0}, []int{0, 1, 2}}, {[]int{1, 2, 0}, []int{1, 0, 2}}, {[]int{0, 2, 1}, []int{1, 2, 0}}, {[]int{1, 0, 2}, []int{2, 0, 1}}, {[]int{2, 0, 1}, []int{0, 2, 1}},
		{[]int{0, 0, 1, 1, 2, 2}, []int{4, 5, 2, 3, 0, 1}}, {[]int{2, 2, 1, 1, 0, 0}, []int{0, 1, 2, 3, 4, 5}}, {[]int{0, 1, 2, 0, 1, 2, 0, 1, 2}, []int{2, 5, 8, 1, 4, 7, 0, 3, 6}}, {[]int{0, 0, 0, 0, 0, 2}, []int{5, 0, 1, 2, 3, 4}}, {[]int{2, 2, 2, 2, 2, 0}, []int{0, 1, 2, 3, 4, 5}},
	} {
		c := priorities(x.is...)
		var want []api.Key
		for _, i := range x.want {
			b := c.List[i]
			want = append(want, api.Key{Source: b.Source, Seq: b.Seq, Offset: b.Offset})
		}
		if got := custody.Order(c); !slices.Equal(got, want) || custody.Check(c) != api.OK {
			t.Errorf("Order of %v: %+v, want %+v", x.is, got, want)
		}
	}
}

// P17.3: Order of as many as there may be, by chance, held against what is told once more.
func TestOrderHeld(t *testing.T) {
	d := chance(3)
	for range 2000 {
		var l []int
		for range d.IntN(maxBundles + 1) {
			l = append(l, d.IntN(3))
		}
		c := priorities(l...)
		if got, want := custody.Order(c), toldOrder(c); !slices.Equal(got, want) || len(got) != len(l) {
			t.Fatalf("Order of %v: %+v, want %+v", l, got, want)
		}
	}
	for what, c := range fine(t) {
		if got, want := custody.Order(c), toldOrder(c); !slices.Equal(got, want) {
			t.Errorf("Order of %s: %+v, want %+v", what, got, want)
		}
	}
}

// P17.3: of custody that may not be Order tells nothing, and Expire ErrCustody.
func TestExpireAndOrderOfWrongCustody(t *testing.T) {
	for what, c := range wrongCustody(t) {
		if l := custody.Order(c); len(l) > 0 {
			t.Errorf("Order of %s: %+v", what, l)
		}
	}
	for what, c := range wrongSome(t) {
		for _, now := range []int{-1, 0, 500, 1 << 20, math.MaxInt} {
			refuses(t, "Expire of "+what, ofExpire(custody.Expire(c, now)), api.ErrCustody)
		}
	}
}
