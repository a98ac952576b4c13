package custody_test

import (
	"fmt"
	"math"
	"slices"
	"testing"

	"heliograph/api"
	"heliograph/bundle"
	"heliograph/custody"
)

// row is custody that a long row of calls has made, and what must be in it.
type row struct {
	t    *testing.T
	d    dice
	c    api.Custody
	held map[api.Key]api.Bundle
	did  map[string]int
	now  int
}

// settles keeps what a call answered, if it is what is told once more and may be.
func (r *row) settles(what string, got, want answer) {
	r.t.Helper()
	if wants(r.t, what, got, want); r.t.Failed() {
		r.t.FailNow()
	}
	r.did[fmt.Sprint(what, " ", got.e)]++
	if got.e != api.OK {
		return
	}
	if custody.Check(got.c) != api.OK || !mayBe(got.c) {
		r.t.Fatalf("%s: %+v may not be", what, got.c)
	}
	r.c = got.c
}

func (r *row) insert(b api.Bundle) {
	r.t.Helper()
	got := of(custody.Insert(r.c, b))
	r.settles("Insert", got, toldInsert(r.c, b))
	if got.e == api.OK {
		r.held[custody.Key(b)] = b
	}
}

func (r *row) remove(k api.Key) {
	r.t.Helper()
	got := of(custody.Remove(r.c, k))
	r.settles("Remove", got, toldRemove(r.c, k))
	if got.e == api.OK {
		delete(r.held, k)
	}
}

func (r *row) expire() {
	r.t.Helper()
	r.now = r.d.IntN(150)
	got := ofExpire(custody.Expire(r.c, r.now))
	r.settles("Expire", got, toldExpire(r.c, r.now))
	for _, b := range got.gone {
		if was, ok := r.held[custody.Key(b)]; !ok || !bundle.Same(b, was) || !bundle.Expired(b, r.now) {
			r.t.Fatalf("%+v has expired at %d", b, r.now)
		}
		delete(r.held, custody.Key(b))
	}
	for _, b := range r.held {
		if bundle.Expired(b, r.now) {
			r.t.Fatalf("%+v has not expired at %d", b, r.now)
		}
	}
	if len(got.gone) > 0 {
		r.did["gone"]++
	}
}

// sound asks for what P17.5 says of custody, whatever was done.
func (r *row) sound() {
	r.t.Helper()
	if len(r.held) != len(r.c.List) {
		r.t.Fatalf("%d bundles are held, not %d", len(r.c.List), len(r.held))
	}
	for k, b := range r.held {
		if got := ofFind(custody.Find(r.c, k)); got.e != api.OK || !bundle.Same(got.b, b) {
			r.t.Fatalf("Find of %+v: %+v, want %+v", k, got, b)
		}
	}
	times := map[api.Key]int{}
	l := custody.Order(r.c)
	for _, k := range l {
		times[k]++
	}
	for k := range r.held {
		if times[k] != 1 || len(l) != len(r.held) {
			r.t.Fatalf("Order of %+v: %+v", r.c, l)
		}
	}
	if !slices.Equal(l, toldOrder(r.c)) {
		r.t.Fatalf("Order of %+v: %+v", r.c, l)
	}
	if got := of(custody.Load(saved(r.t, r.c))); got.e != api.OK || !custody.Same(got.c, r.c) {
		r.t.Fatalf("Load of Save of %+v: %+v", r.c, got)
	}
}

// P17.5: long rows of Insert, Remove and Expire, held against what is told once more: what was inserted is found till it is gone, all others stay in their order.
func TestLongRows(t *testing.T) {
	did := map[string]int{}
	for seed := range uint64(8) {
		r := &row{t: t, d: chance(100 + seed), held: map[api.Key]api.Bundle{}, did: did}
		for i := range 400 {
			switch n := r.d.IntN(20 + int(seed)*5); {
			case n == 0:
				r.expire()
			case n < 5:
				r.remove(r.d.key(r.c))
			default:
				b := r.d.bundle()
				if r.d.IntN(20) == 0 {
					b.Priority = 3
				}
				r.insert(b)
			}
			if i%8 == 0 || len(r.c.List) < 4 {
				r.sound()
			}
		}
	}
	for _, what := range []string{"Insert 0", "Insert 5", "Insert 6", "Insert 190", "Remove 0", "Remove 4", "Expire 0", "gone"} {
		if did[what] < 20 {
			t.Errorf("%s: %d times", what, did[what])
		}
	}
}

// P17.5: full by number and full by bytes: what goes makes room again, and just as much.
func TestRoomThatComesBack(t *testing.T) {
	for _, c := range []api.Custody{many(maxBundles), holding(t, 29, maxHeld), holding(t, maxBundles, maxHeld)} {
		for _, b := range c.List {
			fresh := b
			fresh.Source, fresh.Dest = 4, 1+b.Dest%6
			for where(c, custody.Key(fresh)) >= 0 {
				fresh.Seq++
			}
			if bundle.Size(fresh) != bundle.Size(b) {
				t.Fatalf("%d bytes, not %d", bundle.Size(fresh), bundle.Size(b))
			}
			refuses(t, "full", of(custody.Insert(c, fresh)), api.ErrFull)
			less, e := custody.Remove(c, custody.Key(b))
			if e != api.OK {
				t.Fatal(e)
			}
			more := fresh
			more.Payload, more.Total = append(slices.Clone(b.Payload), 1), max(b.Total, b.Offset+len(b.Payload)+1)
			if sizes(c.List) == maxHeld && bundle.Check(more) == api.OK {
				refuses(t, "one byte more", of(custody.Insert(less, more)), api.ErrFull)
			}
			d, e := custody.Insert(less, fresh)
			wants(t, "as many bytes", of(d, e), answer{c: list(append(slices.Clone(less.List), fresh)...)})
			refuses(t, "full again", of(custody.Insert(d, b)), api.ErrFull)
		}
	}
}

// P17.5: Insert and then Remove is what it was, but for the place of what was there.
func TestInsertThenRemove(t *testing.T) {
	for what, c := range fine(t) {
		b := whole(2, 4000, 4)
		d, e := custody.Insert(c, b)
		if e == api.ErrFull {
			continue
		}
		again, e := custody.Remove(d, custody.Key(b))
		if e != api.OK || !custody.Same(again, c) {
			t.Errorf("%s: %+v, error %d", what, again, e)
		}
		for i, x := range c.List {
			less, _ := custody.Remove(c, custody.Key(x))
			more, e := custody.Insert(less, x)
			want := changed(c, func(l []api.Bundle) []api.Bundle { return append(slices.Delete(l, i, i+1), x) })
			if e != api.OK || !custody.Same(more, want) {
				t.Errorf("%s, %d: %+v, error %d", what, i, more, e)
			}
		}
	}
}

// R1: every call ends, and none panics, whatever it is handed.
func TestWhateverIsHanded(t *testing.T) {
	wild := api.Bundle{Source: math.MinInt, Dest: math.MaxInt, Created: math.MaxInt, Lifetime: math.MaxInt, HopLimit: math.MinInt, Hops: math.MaxInt, Priority: math.MinInt, Offset: math.MaxInt, Total: math.MinInt, Payload: make([]byte, 1<<20)}
	k := api.Key{Source: math.MinInt, Seq: math.MaxUint32, Offset: math.MaxInt}
	for _, c := range []api.Custody{list(wild), list(wild, wild), list(make([]api.Bundle, 1<<16)...)} {
		refuses(t, "Insert", of(custody.Insert(c, wild)), api.ErrCustody)
		refuses(t, "Remove", of(custody.Remove(c, k)), api.ErrCustody)
		refuses(t, "Find", ofFind(custody.Find(c, k)), api.ErrCustody)
		refuses(t, "Expire", ofExpire(custody.Expire(c, math.MaxInt)), api.ErrCustody)
		refuses(t, "Save", ofSave(custody.Save(c)), api.ErrCustody)
		if custody.Check(c) != api.ErrCustody || len(custody.Order(c)) > 0 || !custody.Same(c, c) {
			t.Error("Check, Order, Same")
		}
	}
	for _, c := range fine(t) {
		refuses(t, "Insert of what is wild", of(custody.Insert(c, wild)), api.ErrBundle)
		refuses(t, "Remove of what is wild", of(custody.Remove(c, k)), api.ErrNone)
		refuses(t, "Find of what is wild", ofFind(custody.Find(c, k)), api.ErrNone)
	}
}
