package sdnv_test

import (
	"bytes"
	"math"
	"slices"
	"testing"

	"heliograph/api"
	"heliograph/sdnv"
)

// R3: Put leaves the bytes and the room behind them, and answers new memory, whatever room there is.
func TestPutSharesNothing(t *testing.T) {
	for n, want := range known() {
		for _, size := range []int{0, 1, 5} {
			room := row(30, 0x6e)
			was := slices.Clone(room)
			want := slices.Concat(room[3:3+size], want)
			got, again := sdnv.Put(room[3:3+size], n), sdnv.Put(room[3:3+size], n)
			clear(got[:cap(got)])
			if !bytes.Equal(room, was) {
				t.Errorf("Put of %d behind %d bytes: they are % x now", n, size, room)
			}
			if !bytes.Equal(again, want) {
				t.Errorf("Put of %d behind %d bytes: two answers share memory", n, size)
			}
			clear(room)
			if !bytes.Equal(again, want) {
				t.Errorf("Put of %d behind %d bytes: the answer changes with the bytes", n, size)
			}
		}
	}
}

// R3: two puts behind what was put do not lie in one room.
func TestPutTwiceBehindTheSame(t *testing.T) {
	b := sdnv.Put(nil, 5)
	one, two := sdnv.Put(b, 300), sdnv.Put(b, 17000)
	if !bytes.Equal(one, rowOf(5, 300)) || !bytes.Equal(two, rowOf(5, 17000)) || !bytes.Equal(b, rowOf(5)) {
		t.Errorf("% x, % x, % x", b, one, two)
	}
	again := sdnv.Row([]uint64{5})
	one, two = sdnv.Put(again, 300), append(again, 9, 9)
	if !bytes.Equal(one, rowOf(5, 300)) || !bytes.Equal(two, []byte{5, 9, 9}) {
		t.Errorf("% x, % x", one, two)
	}
}

// R3: Row leaves the numbers and the room behind them, and answers new memory.
func TestRowSharesNothing(t *testing.T) {
	room := []uint64{1, 2, 300, math.MaxUint64, 0, 6, 7}
	was := slices.Clone(room)
	for _, l := range [][]uint64{room[1:1], room[2:3], room[1:5], room} {
		want := rowOf(l...)
		got, again := sdnv.Row(l), sdnv.Row(l)
		clear(got[:cap(got)])
		if !bytes.Equal(again, want) {
			t.Errorf("Row of %d: two answers share memory", l)
		}
		if !slices.Equal(room, was) {
			t.Errorf("Row: the numbers are %d now", room)
		}
	}
	again := sdnv.Row(room)
	clear(room)
	if !bytes.Equal(again, rowOf(was...)) {
		t.Error("Row: the answer changes with the numbers")
	}
}

// R3: Get and Rows leave the bytes, and look at none behind their end, where a number could go on.
func TestGetLeavesItsBytes(t *testing.T) {
	for n, b := range known() {
		room := slices.Concat([]byte{9}, b, rowOf(5, 300, 7))
		was := slices.Clone(room)
		for k := range b {
			refuses(t, "the rest in the room behind", room[1:1+k], api.ErrShort)
			refusesRow(t, "the rest in the room behind", room[1:1+k], 1, api.ErrShort)
		}
		gets(t, "with room behind", room[1:1+len(b)], n, len(b))
		refusesRow(t, "the second one in the room behind", room[1:1+len(b)], 2, api.ErrShort)
		getsRow(t, "all", room[1:], 4, []uint64{n, 5, 300, 7}, len(room)-1)
		if !bytes.Equal(room, was) {
			t.Errorf("the bytes are % x now", room)
		}
	}
}

// R3: the numbers that Rows tells are new memory.
func TestRowsSharesNothing(t *testing.T) {
	want := []uint64{1, 300, math.MaxUint64, 0}
	b := rowOf(want...)
	got, _, _ := sdnv.Rows(b, 4)
	again, _, _ := sdnv.Rows(b, 4)
	fewer, _, _ := sdnv.Rows(b, 2)
	clear(got[:cap(got)])
	clear(b)
	if !slices.Equal(again, want) || !slices.Equal(fewer, want[:2]) {
		t.Errorf("Rows: %d and %d, where the bytes and another answer were changed", again, fewer)
	}
}

// R5: the same each time, also behind calls that were refused.
func TestTheSameEachTime(t *testing.T) {
	for range 3 {
		for n, b := range known() {
			refuses(t, "refused", []byte{0x80}, api.ErrSdnv)
			refuses(t, "refused", row(9, 0x80, 0x82), api.ErrLong)
			gets(t, "behind it", b, n, len(b))
			refusesRow(t, "refused", slices.Concat(b, []byte{0x80}), 2, api.ErrSdnv)
			getsRow(t, "behind it", slices.Concat(b, []byte{0x80}), 1, []uint64{n}, len(b))
		}
	}
}
