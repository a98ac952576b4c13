package link_test

import (
	"bytes"
	"slices"
	"testing"

	"heliograph/api"
	"heliograph/link"
)

// roomy answers a flight whose bytes have something ahead of them and behind their end, and all of that.
func roomy(n int) (api.Flight, []byte) {
	room := bytes.Repeat([]byte{0xee}, n+60)
	copy(room[10:], fill(5, n))
	return api.Flight{From: 1, To: 2, At: 3, Bytes: room[10 : 10+n]}, room
}

// R3: what is sent is not kept, and not changed by whatever is done with it later, the room behind its end neither.
func TestSentBytesStayAsTheyWere(t *testing.T) {
	for _, n := range []int{1, 2, 8, 31, 32, 33, 399, 400} {
		x, room := roomy(n)
		was := slices.Clone(room)
		l := with(t, x, x)
		for _, bit := range []int{0, 8*n - 1} {
			answers(t, "Corrupt", l.Corrupt(1, 2, 0, bit), api.OK)
		}
		answers(t, "Double", l.Double(1, 2, 1), api.OK)
		answers(t, "Corrupt of the double", l.Corrupt(1, 2, 2, 1), api.OK)
		answers(t, "Lose", l.Lose(1, 2, 0), api.OK)
		c := l.Copy()
		answers(t, "Corrupt of the copy", c.Corrupt(1, 2, 0, 3), api.OK)
		for _, y := range told(t, l, 1, 2) {
			clear(y.Bytes[:cap(y.Bytes)])
		}
		if b, e := l.Deliver(1, 2, 3, 0); e == api.OK {
			clear(b[:cap(b)])
		}
		if !bytes.Equal(room, was) {
			t.Errorf("%d: what was handed in has changed", n)
		}
	}
	for _, n := range []int{0, 1, 400, 401} {
		x, room := roomy(n)
		was := slices.Clone(room)
		x.At = -1
		answers(t, "Send of what may not be", with(t).Send(x), api.ErrArg)
		x.At = 3
		full(t, 1).Send(x)
		(*link.Links)(nil).Send(x)
		if !bytes.Equal(room, was) {
			t.Errorf("%d: what was refused has changed", n)
		}
	}
}

// R3: links do not mind what becomes of what they were handed.
func TestSentBytesAreNotKept(t *testing.T) {
	for _, n := range []int{1, 2, 8, 33, 400} {
		x, room := roomy(n)
		want := deep(x)
		l := with(t, x)
		all := l.All(1, 2)
		clear(room)
		tells(t, "the bytes were changed", all, []api.Flight{want})
		has(t, "the bytes were changed", l, 1, 2, want)
		copy(room, bytes.Repeat([]byte{0x55}, len(room)))
		delivers(t, l, 1, 2, 3, 0, want.Bytes...)
	}
}

// R3: what All tells is the caller's to change, at once or later: no other telling of it changes, and no links.
func TestToldFlightsAreNewMemory(t *testing.T) {
	l := with(t, slices.Concat(five(), neighbours())...)
	answers(t, "Double", l.Double(1, 2, 2), api.OK)
	c, want, was := l.Copy(), append(five(), five()[2]), look(t, l)
	all := l.All(1, 2)
	kept := told(t, l, 1, 2)
	for range 2 {
		for i, x := range all {
			if !alike(x, want[i]) {
				t.Errorf("it tells %s at %d", short([]api.Flight{x}), i)
			}
			_ = append(x.Bytes, 1, 2, 3, 4, 5, 6, 7, 8, 9)
			clear(x.Bytes[:cap(x.Bytes)])
			x.From, x.To, x.At = 6, 5, 0
		}
	}
	if !slices.EqualFunc(kept, want, alike) {
		t.Errorf("what was told is %s now", short(kept))
	}
	tells(t, "the iterator", all, want)
	same(t, "the links", l, was)
	same(t, "the copy", c, was)
}

// R3: what Deliver answers is the caller's to change, though a double, a copy or an iterator has the same flight.
func TestDeliveredBytesAreNewMemory(t *testing.T) {
	for _, n := range []int{1, 2, 8, 33, 400} {
		x := api.Flight{From: 1, To: 2, At: 3, Bytes: fill(9, n)}
		l := with(t, x)
		answers(t, "Double", l.Double(1, 2, 0), api.OK)
		c, all := l.Copy(), l.All(1, 2)
		b, e := l.Deliver(1, 2, 3, 0)
		if e != api.OK || !bytes.Equal(b, x.Bytes) {
			t.Fatalf("%d: Deliver: error %d", n, e)
		}
		clear(b[:cap(b)])
		has(t, "the double", l, 1, 2, x)
		has(t, "the copy", c, 1, 2, x, x)
		tells(t, "the iterator", all, []api.Flight{x, x})
		again, _ := c.Deliver(1, 2, 3, 1)
		clear(again[:cap(again)])
		has(t, "the copy", c, 1, 2, x)
		kept, _ := l.Deliver(1, 2, 3, 0)
		other, _ := c.Deliver(1, 2, 3, 0)
		clear(kept[:cap(kept)])
		if !bytes.Equal(other, x.Bytes) {
			t.Errorf("%d: two answers share memory", n)
		}
	}
}
