package custody_test

import (
	"fmt"
	"math"
	"testing"

	"heliograph/api"
	"heliograph/bundle"
	"heliograph/custody"
)

// P17.2: the chapter's example.
func TestInsertOfTheExample(t *testing.T) {
	var c api.Custody
	for i, b := range example() {
		d, e := custody.Insert(c, b)
		wants(t, fmt.Sprint(i), of(d, e), answer{c: list(example()[:i+1]...)})
		c = d
	}
	again := example()[0]
	again.Priority, again.Lifetime = 1, 5
	refuses(t, "a again", of(custody.Insert(c, example()[0])), api.ErrThere)
	refuses(t, "the key of a again", of(custody.Insert(c, again)), api.ErrThere)
	refuses(t, "Remove", of(custody.Remove(c, api.Key{Source: 1, Seq: 9})), api.ErrNone)
}

// P17.2: what is inserted is the last one, and all others stay as they are.
func TestInsert(t *testing.T) {
	fresh := whole(3, 555, 2)
	fresh.Offset, fresh.Total, fresh.Dest, fresh.Created, fresh.Lifetime, fresh.HopLimit, fresh.Hops, fresh.Priority = 17, 77, 6, 44, 1234, 13, 11, 2
	for what, c := range fine(t) {
		for _, b := range []api.Bundle{fresh, whole(2, 1234, 1), whole(6, math.MaxUint32-1, 400), piece(1, 77, 399, 1)} {
			want := toldInsert(c, b)
			wants(t, what, of(custody.Insert(c, b)), want)
			if want.e == api.OK && (len(want.c.List) != len(c.List)+1 || !bundle.Same(want.c.List[len(c.List)], b)) {
				t.Errorf("%s: %+v", what, want)
			}
		}
	}
}

// P17.2: a bundle that may not be, whatever else is wrong with it.
func TestInsertOfWhatMayNotBe(t *testing.T) {
	for what, b := range wrongBundles() {
		for where, c := range fine(t) {
			refuses(t, what+" into "+where, of(custody.Insert(c, b)), api.ErrBundle)
		}
		there := unlike()
		there.List[3].Source, there.List[3].Seq, there.List[3].Offset = 4, 77, 0
		if bundle.Check(there.List[3]) != api.OK {
			t.Fatal("what is there may not be")
		}
		refuses(t, what+" that is there", of(custody.Insert(there, b)), api.ErrBundle)
	}
}

// P17.2: a bundle whose key is there, at each place, and whose key is almost there.
func TestInsertOfWhatIsThere(t *testing.T) {
	for _, c := range []api.Custody{unlike(), many(maxBundles), holding(t, maxBundles, maxHeld)} {
		for _, b := range c.List {
			refuses(t, "the same", of(custody.Insert(c, b)), api.ErrThere)
			other := whole(b.Source, b.Seq, 400-b.Offset)
			other.Offset, other.Total, other.Dest, other.Priority = b.Offset, 400, 1+b.Source%6, 2-b.Priority
			refuses(t, "the key", of(custody.Insert(c, other)), api.ErrThere)
		}
	}
	for what, b := range beside() {
		for _, l := range [][]api.Bundle{example()[:1], example(), {example()[1], example()[0]}} {
			wants(t, what, of(custody.Insert(list(l...), b)), answer{c: list(append(l, b)...)})
		}
	}
}

// P17.2: the last bundle for which there is room, and one beyond MaxBundles.
func TestInsertOfOneTooMany(t *testing.T) {
	all := many(maxBundles + 1)
	for n := range maxBundles + 1 {
		got := of(custody.Insert(list(all.List[:n]...), all.List[n]))
		if n < maxBundles {
			wants(t, fmt.Sprint(n), got, answer{c: list(all.List[:n+1]...)})
		} else {
			refuses(t, "one beyond", got, api.ErrFull)
		}
	}
}

// P17.2: the last byte for which there is room, and one beyond MaxHeld.
func TestInsertOfTooManyBytes(t *testing.T) {
	for _, n := range []int{28, 29, 30, maxBundles - 1} {
		for off := -20; off <= 20; off++ {
			b := whole(3, 900, 300)
			c := holding(t, n, maxHeld-bundle.Size(b)+off)
			got := of(custody.Insert(c, b))
			if off <= 0 {
				wants(t, fmt.Sprint(n, " and ", off), got, toldInsert(c, b))
				if got.e != api.OK {
					t.Errorf("%d bundles, %d bytes fewer: error %d", n, -off, got.e)
				}
			} else {
				refuses(t, fmt.Sprint(n, " and ", off), got, api.ErrFull)
			}
		}
	}
	full := holding(t, 29, maxHeld)
	refuses(t, "the least", of(custody.Insert(full, api.Bundle{Source: 1, Dest: 1, Seq: 999, Lifetime: 1, HopLimit: 1, Total: 1, Payload: []byte{0}})), api.ErrFull)
}

// P17.2: of two errors that are due at once the one that the chapter names first.
func TestInsertOfTwoErrors(t *testing.T) {
	wrong, most, bytes := many(maxBundles+1), many(maxBundles), holding(t, 29, maxHeld)
	bad := whole(1, 8, 5)
	bad.Priority = 3
	for what, x := range map[string]struct {
		c api.Custody
		b api.Bundle
		e api.Errno
	}{
		"custody and the bundle": {wrong, bad, api.ErrCustody}, "custody, and there": {wrong, wrong.List[4], api.ErrCustody}, "custody, and full": {wrong, whole(5, 5, 5), api.ErrCustody},
		"the bundle, and there, and full": {most, bad, api.ErrBundle}, "the bundle, and full": {most, api.Bundle{}, api.ErrBundle}, "the bundle, and full of bytes": {bytes, bad, api.ErrBundle}, "the bundle, and there": {many(3), bad, api.ErrBundle},
		"there, and full": {most, most.List[31], api.ErrThere}, "there, and full of bytes": {bytes, bytes.List[0], api.ErrThere}, "full, and full of bytes": {holding(t, maxBundles, maxHeld), whole(5, 500, 5), api.ErrFull},
	} {
		refuses(t, what, of(custody.Insert(x.c, x.b)), x.e)
	}
}

// P17.2: Remove and Find of each one, the first, those in the midst and the last one, and of none.
func TestRemoveAndFind(t *testing.T) {
	for what, c := range fine(t) {
		for i, b := range c.List {
			k := api.Key{Source: b.Source, Seq: b.Seq, Offset: b.Offset}
			wants(t, fmt.Sprint("Find of ", i, " of ", what), ofFind(custody.Find(c, k)), answer{b: b})
			wants(t, fmt.Sprint("Remove of ", i, " of ", what), of(custody.Remove(c, k)), toldRemove(c, k))
			for n, none := range almost(k) {
				if where(c, none) >= 0 || n%7 != i%7 && len(c.List) > 20 {
					continue
				}
				refuses(t, "Find", ofFind(custody.Find(c, none)), api.ErrNone)
				refuses(t, "Remove", of(custody.Remove(c, none)), api.ErrNone)
			}
		}
		refuses(t, "Find of zero", ofFind(custody.Find(c, api.Key{})), api.ErrNone)
		refuses(t, "Remove of zero", of(custody.Remove(c, api.Key{})), api.ErrNone)
	}
	wants(t, "the only one", of(custody.Remove(list(example()[0]), api.Key{Source: 1, Seq: 1})), answer{})
	wants(t, "the first", of(custody.Remove(list(example()...), api.Key{Source: 1, Seq: 1})), answer{c: list(example()[1:]...)})
	wants(t, "the second", of(custody.Remove(list(example()...), api.Key{Source: 1, Seq: 2})), answer{c: list(example()[0], example()[2])})
	wants(t, "the last", of(custody.Remove(list(example()...), api.Key{Source: 1, Seq: 3})), answer{c: list(example()[:2]...)})
}

// almost are keys that part in one number from another one, or that have its numbers in other fields.
func almost(k api.Key) []api.Key {
	out := []api.Key{{}, {Source: int(k.Seq), Seq: uint32(k.Source), Offset: k.Offset}, {Source: k.Offset, Seq: k.Seq, Offset: k.Source}}
	for _, n := range []int{-1, 1, 1 << 32, -1 << 32, math.MinInt} {
		out = append(out, api.Key{Source: k.Source + n, Seq: k.Seq, Offset: k.Offset}, api.Key{Source: k.Source, Seq: k.Seq, Offset: k.Offset + n})
	}
	for bit := range 32 {
		out = append(out, api.Key{Source: k.Source, Seq: k.Seq ^ 1<<bit, Offset: k.Offset})
	}
	return out
}

// P17.2: custody that may not be comes ahead of all else.
func TestInsertRemoveFindOfWrongCustody(t *testing.T) {
	for what, c := range wrongSome(t) {
		for _, b := range append(c.List[:1:1], whole(3, 800, 7), api.Bundle{}) {
			k := custody.Key(b)
			refuses(t, "Insert into "+what, of(custody.Insert(c, b)), api.ErrCustody)
			refuses(t, "Remove of "+what, of(custody.Remove(c, k)), api.ErrCustody)
			refuses(t, "Find in "+what, ofFind(custody.Find(c, k)), api.ErrCustody)
		}
	}
}
