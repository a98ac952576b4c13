package wal_test

import (
	"math"
	"slices"
	"testing"

	"heliograph/api"
	"heliograph/wal"
)

// The chapter's examples.
func TestExamples(t *testing.T) {
	w := formatted(t, 4)
	if w.Left() != 3 || w.Turn() != 0 || w.Len() != 0 || len(w.Snapshot()) != 0 {
		t.Error("Format", w.Left(), w.Turn(), w.Len(), w.Snapshot())
	}
	answers(t, "Append of 44", w.Append(make([]byte, 44)), api.OK)
	answers(t, "Append of 45", w.Append(make([]byte, 45)), api.OK)
	answers(t, "Append of 1", w.Append(make([]byte, 1)), api.ErrFull)
	counts(t, "Left", w.Left(), 0)
	answers(t, "Checkpoint of 1", w.Checkpoint(make([]byte, 1)), api.OK)
	if w.Turn() != 1 || w.Left() != 3 || w.Len() != 0 {
		t.Error("Checkpoint", w.Turn(), w.Left(), w.Len())
	}
	d := w.Disk()
	d.Arm(1)
	answers(t, "Append, armed with 1", w.Append(make([]byte, 45)), api.ErrDead)
	d.Crash(all(len(d.Pending())))
	w = opened(t, d)
	if w.Len() != 0 || w.Left() != 3 || holds(t, d)[7] != (api.Block{}) {
		t.Error("Open", w.Len(), w.Left())
	}
	_, e := wal.Open(newDisk(t, 10))
	answers(t, "Open of a new disk", e, api.ErrWal)
	_, e = wal.Format(newDisk(t, 10), 3)
	answers(t, "Format, areas of 3", e, api.ErrArg)
	_, e = wal.Format(newDisk(t, 9), 4)
	answers(t, "Format of 9 sectors", e, api.ErrArg)
	counts(t, "Sectors(44)", wal.Sectors(44), 1)
	counts(t, "Sectors(45)", wal.Sectors(45), 2)
}

// P4.4: Sectors, at all lengths that may be and beside them.
func TestSectors(t *testing.T) {
	for n := range 40001 {
		want := (4 + n) / 48
		if (4+n)%48 != 0 {
			want++
		}
		if got := wal.Sectors(n); got != want {
			t.Fatalf("Sectors(%d): %d, want %d", n, got, want)
		}
	}
	counts(t, "Sectors(40000)", wal.Sectors(40000), 834)
	for _, n := range []int{-1, -4, -48, math.MinInt, 40001, 40002, 1 << 20, math.MaxInt - 3, math.MaxInt} {
		counts(t, "Sectors of what may not be", wal.Sectors(n), 0)
	}
}

// P4.4, R4: of nil.
func TestNil(t *testing.T) {
	var w *wal.Wal
	if w.Snapshot() != nil || w.Len() != 0 || w.Left() != 0 || w.Turn() != 0 || w.Broken() || w.Disk() != nil {
		t.Error("a nil log tells something")
	}
	for range w.All() {
		t.Error("a nil log has a transaction")
	}
	answers(t, "Append", w.Append(nil), api.ErrNil)
	answers(t, "Checkpoint", w.Checkpoint(nil), api.ErrNil)
}

// P4.4: the disk is the very one that was handed in, and what is done to it is seen there.
func TestDisk(t *testing.T) {
	d := newDisk(t, 10)
	w, _ := wal.Format(d, 4)
	if w.Disk() != d || opened(t, d).Disk() != d {
		t.Error("another disk")
	}
}

// P4.4, R6: All tells what there was when it was called, may be left early, and be gone through again.
func TestAll(t *testing.T) {
	w := formatted(t, 9)
	none := w.All()
	answers(t, "Append", w.Append([]byte("a")), api.OK)
	answers(t, "Append", w.Append([]byte("bb")), api.OK)
	two := w.All()
	gone := func(what string, seq func(yield func(int, []byte) bool), want ...string) {
		t.Helper()
		for range 2 {
			var got []string
			for i, b := range seq {
				got = append(got, string(b))
				counts(t, what, i, len(got))
			}
			if !slices.Equal(got, want) {
				t.Errorf("%s: %q, want %q", what, got, want)
			}
		}
	}
	answers(t, "Append", w.Append([]byte("ccc")), api.OK)
	gone("none", none)
	gone("two", two, "a", "bb")
	for i, b := range two {
		if i != 1 || string(b) != "a" {
			t.Error(i, b)
		}
		break
	}
	n := 0
	for i, b := range w.All() {
		n++
		answers(t, "Append within All", w.Append(slices.Repeat(b, 2)), api.OK)
		if i == 2 {
			answers(t, "Checkpoint within All", w.Checkpoint([]byte("new")), api.OK)
		}
	}
	counts(t, "transactions", n, 3)
	gone("two, behind a Checkpoint", two, "a", "bb")
	gone("of the new turn", w.All(), "cccccc")
	if string(w.Snapshot()) != "new" {
		t.Error(w.Snapshot())
	}
}

// R3: what is handed in is neither changed nor kept, the room behind its end neither.
func TestHandedIn(t *testing.T) {
	for _, c := range both {
		room := fill(3, 200)
		b := room[:100]
		w := formatted(t, 9)
		answers(t, c.name, c.call(w, b), api.OK)
		if !slices.Equal(room, fill(3, 200)) {
			t.Error(c.name, "changed what it was handed")
		}
		clear(room)
		got := w.Snapshot()
		for _, x := range w.All() {
			got = x
		}
		if !slices.Equal(got, fill(3, 100)) {
			t.Error(c.name, "kept what it was handed")
		}
		answers(t, "Append", w.Append([]byte("behind")), api.OK)
		if !slices.Equal(tells(t, opened(t, w.Disk())).first(), fill(3, 100)) {
			t.Error(c.name, "wrote what came to stand there later")
		}
	}
}

// first is what was laid first: the snapshot, or the transaction ahead of all others.
func (a told) first() []byte {
	if len(a.snapshot) == 0 {
		return a.list[0]
	}
	return a.snapshot
}

// R3: what is answered is new memory, each time, with its room.
func TestAnswered(t *testing.T) {
	w := formatted(t, 12)
	answers(t, "Checkpoint", w.Checkpoint(fill(1, 60)), api.OK)
	answers(t, "Append", w.Append(fill(2, 30)), api.OK)
	answers(t, "Append", w.Append(fill(3, 70)), api.OK)
	want := told{turn: 1, left: 10, snapshot: fill(1, 60)}.with(fill(2, 30)).with(fill(3, 70))
	spoil := func(b []byte) {
		b = b[:cap(b)]
		for i := range b {
			b[i] = 0xEE
		}
	}
	for _, w := range []*wal.Wal{w, opened(t, w.Disk())} {
		seq := w.All()
		for range 2 {
			spoil(w.Snapshot())
			for i, b := range seq {
				if !slices.Equal(b, want.list[i-1]) {
					t.Errorf("transaction %d: % x", i, b)
				}
				spoil(b)
			}
			if got := tells(t, w); !got.same(want) {
				t.Errorf("%+v", got)
			}
		}
	}
}

// P4.4: what one log tells does not hang on another one of another disk.
func TestTwoLogs(t *testing.T) {
	a, b := formatted(t, 5), formatted(t, 5)
	answers(t, "Append", a.Append([]byte("a")), api.OK)
	answers(t, "Checkpoint", b.Checkpoint([]byte("b")), api.OK)
	if !tells(t, a).same(told{left: 3, list: [][]byte{[]byte("a")}}) || !tells(t, b).same(told{turn: 1, left: 4, snapshot: []byte("b")}) {
		t.Error(tells(t, a), tells(t, b))
	}
}
