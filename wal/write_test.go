package wal_test

import (
	"math"
	"slices"
	"testing"

	"heliograph/api"
	"heliograph/disk"
	"heliograph/wal"
)

// both are the calls that write to a log.
var both = []struct {
	name string
	call func(w *wal.Wal, b []byte) api.Errno
}{
	{"Append", (*wal.Wal).Append},
	{"Checkpoint", (*wal.Wal).Checkpoint},
}

// refusesWrite: nothing that is told, and nothing of the disk, is otherwise behind a refused call (R2, P4.5).
func refusesWrite(t *testing.T, what string, w *wal.Wal, got func() api.Errno, want api.Errno) {
	t.Helper()
	before, disk, ops, broken := tells(t, w), holds(t, w.Disk()), w.Disk().Ops(), w.Broken()
	answers(t, what, got(), want)
	if !tells(t, w).same(before) || !slices.Equal(holds(t, w.Disk()), disk) || w.Disk().Ops() != ops || w.Broken() != broken {
		t.Errorf("%s: a refused call changed something", what)
	}
}

// brokenLog is a log whose disk has failed once at a write, and works again.
func brokenLog(t *testing.T, area int) *wal.Wal {
	t.Helper()
	w := formatted(t, area)
	w.Disk().Fail(0)
	answers(t, "Append", w.Append(nil), api.ErrIo)
	if !w.Broken() {
		t.Error("not broken")
	}
	return w
}

// P4.3: each error, and of two that apply the one that is named first.
func TestWriteErrors(t *testing.T) {
	for _, c := range both {
		var none *wal.Wal
		for _, n := range []int{0, 40000, 40001} {
			answers(t, c.name+" of nil", c.call(none, make([]byte, n)), api.ErrNil)
		}
		w, small, bad := formatted(t, 1000), formatted(t, 4), brokenLog(t, 4)
		refuses := func(what string, w *wal.Wal, n int, want api.Errno) {
			t.Helper()
			refusesWrite(t, c.name+" "+what, w, func() api.Errno { return c.call(w, make([]byte, n)) }, want)
		}
		refuses("of 40001 bytes", w, 40001, api.ErrLong)
		refuses("of 40001 bytes in a small area", small, 40001, api.ErrLong)
		refuses("of 40001 bytes, broken", bad, 40001, api.ErrLong)
		refuses("of 40000 bytes, broken, no room", bad, 40000, api.ErrIo)
		refuses("of no bytes, broken", bad, 0, api.ErrIo)
		refuses("of 40000 bytes in a small area", small, 40000, api.ErrFull)
		small.Disk().Arm(0)
		small.Disk().Sync()
		answers(t, c.name+" without power, no room", c.call(small, make([]byte, 40000)), api.ErrFull)
		if small.Broken() {
			t.Error(c.name, "ErrFull broke the log")
		}
		answers(t, c.name+" without power", c.call(small, nil), api.ErrDead)
		answers(t, c.name+" behind that", c.call(small, nil), api.ErrIo)
	}
}

// P4.3: a frame that fills just what is left, and one of a sector more.
func TestAppendRoom(t *testing.T) {
	for _, n := range []int{0, 1, 44, 45, 92, 93, 44 + 48*3} {
		fills := (4 + n + 47) / 48
		for _, area := range []int{4, 5, 6} {
			w := formatted(t, area)
			want := told{left: area - 1}
			for want.left >= fills {
				b := fill(len(want.list), n)
				answers(t, "Append", w.Append(b), api.OK)
				want = want.with(b)
				if got := tells(t, w); !got.same(want) {
					t.Fatalf("areas of %d, frames of %d bytes: %+v", area, n, got)
				}
			}
			refusesWrite(t, "Append", w, func() api.Errno { return w.Append(make([]byte, n)) }, api.ErrFull)
			if got := tells(t, opened(t, w.Disk())); !got.same(want) {
				t.Errorf("areas of %d, frames of %d bytes, opened: %+v", area, n, got)
			}
		}
	}
}

// P4.3: a snapshot that fills just an area, and one of a sector more; what stood there goes.
func TestCheckpointRoom(t *testing.T) {
	for _, area := range []int{4, 5} {
		w := formatted(t, area)
		answers(t, "Append", w.Append(fill(1, 45)), api.OK)
		before := tells(t, w)
		b := fill(2, 48*area-4)
		refusesWrite(t, "Checkpoint", w, func() api.Errno { return w.Checkpoint(append(b, 1)) }, api.ErrFull)
		answers(t, "Checkpoint", w.Checkpoint(b), api.OK)
		want := before.renewed(area, b)
		if got := tells(t, w); !got.same(want) || got.left != 0 {
			t.Errorf("areas of %d: %+v", area, got)
		}
		refusesWrite(t, "Append", w, func() api.Errno { return w.Append(nil) }, api.ErrFull)
		if got := tells(t, opened(t, w.Disk())); !got.same(want) {
			t.Errorf("areas of %d, opened: %+v", area, got)
		}
	}
}

// P4.3: the longest transaction and snapshot.
func TestLongest(t *testing.T) {
	w := formatted(t, 1000)
	want := told{left: 999}.with(fill(1, 40000))
	answers(t, "Append", w.Append(fill(1, 40000)), api.OK)
	if got := tells(t, w); !got.same(want) || got.left != 999-834 {
		t.Error("Append: left", got.left)
	}
	if !tells(t, opened(t, w.Disk())).same(want) {
		t.Error("Append, opened")
	}
	want = want.renewed(1000, fill(2, 40000))
	answers(t, "Checkpoint", w.Checkpoint(fill(2, 40000)), api.OK)
	if got := tells(t, w); !got.same(want) || got.left != 1000-834 {
		t.Error("Checkpoint: left", got.left)
	}
	if !tells(t, opened(t, w.Disk())).same(want) {
		t.Error("Checkpoint, opened")
	}
}

// P4.3: as many transactions as the greatest area has room for.
func TestMany(t *testing.T) {
	w := formatted(t, 1000)
	want := told{left: 999}
	for i := range 999 {
		answers(t, "Append", w.Append(fill(i, i%45)), api.OK)
		want = want.with(fill(i, i%45))
	}
	answers(t, "Append", w.Append(nil), api.ErrFull)
	if got := tells(t, w); !got.same(want) || got.left != 0 {
		t.Error("left", got.left)
	}
	if !tells(t, opened(t, w.Disk())).same(want) {
		t.Error("opened")
	}
}

// steps are logs of areas of 6, in both areas, with and without transactions, and with what an older turn left in the other area.
var steps = [][]step{
	{},
	{{b: 3}},
	{{b: 50}, {b: 1}},
	{{b: 50}, {checkpoint: true, b: 60}},
	{{checkpoint: true, b: 1}, {b: 46}},
	{{b: 44 + 48*4}, {checkpoint: true, b: 0}, {b: 45}, {checkpoint: true, b: 3}},
	{{checkpoint: true, b: 1}, {checkpoint: true, b: 1}, {checkpoint: true, b: 1}, {b: 1}, {b: 1}},
}

// step is an Append or a Checkpoint of so many bytes.
type step struct {
	checkpoint bool
	b          int
}

func (s step) do(w *wal.Wal, seed int) api.Errno {
	if s.checkpoint {
		return w.Checkpoint(fill(seed, s.b))
	}
	return w.Append(fill(seed, s.b))
}

func (s step) told(from told, area, seed int) told {
	if s.checkpoint {
		return from.renewed(area, fill(seed, s.b))
	}
	return from.with(fill(seed, s.b))
}

// after is a log of areas of so many sectors, made by the steps.
func after(t *testing.T, area int, row []step) (*wal.Wal, told) {
	t.Helper()
	w, want := formatted(t, area), told{left: area - 1}
	for i, s := range row {
		answers(t, "a step", s.do(w, i), api.OK)
		want = s.told(want, area, i)
	}
	if got := tells(t, w); !got.same(want) {
		t.Fatalf("%+v tells %+v", row, got)
	}
	return w, want
}

// P4.3: the writes and syncs of Append and Checkpoint, in their order, and what is told behind each that fails.
func TestWriteOperations(t *testing.T) {
	for _, row := range steps {
		_, was := after(t, 6, row)
		for _, n := range []int{0, 44, 45, 100} {
			turn := was.turn
			mine, other := 2+6*int(turn%2), 2+6*int((turn+1)%2)
			number := uint32(len(was.list) + 1)
			b := fill(77, n)
			appends := append(writes(mine+6-was.left, frameOf(turn, number, b)...), syncs)
			checkpoints := append(writes(other, frameOf(turn+1, 0, b)...), syncs)
			checkpoints = append(checkpoints, writes(int((turn+1)%2), headOf(turn+1, 6))...)
			checkpoints = append(checkpoints, syncs)
			if len(appends)-1 <= was.left {
				stops(t, row, appends, was, was.with(b), func(w *wal.Wal) api.Errno { return w.Append(b) })
			}
			stops(t, row, checkpoints, was, was.renewed(6, b), func(w *wal.Wal) api.Errno { return w.Checkpoint(b) })
		}
	}
}

// stops does call on a log that the steps have made, and stops it at each of its operations, by power and by failing.
func stops(t *testing.T, row []step, want []op, was, will told, call func(w *wal.Wal) api.Errno) {
	t.Helper()
	for k := 0; k <= len(want); k++ {
		made, _ := after(t, 6, row)
		ref := made.Disk()
		for _, o := range want[:k] {
			o.do(t, ref)
		}
		for e, set := range map[api.Errno]func(d *disk.Disk, n int) api.Errno{api.ErrDead: (*disk.Disk).Arm, api.ErrIo: (*disk.Disk).Fail} {
			w, _ := after(t, 6, row)
			ops := w.Disk().Ops()
			set(w.Disk(), k)
			expect := was
			if k == len(want) {
				e, expect = api.OK, will
			}
			answers(t, "a call that is stopped", call(w), e)
			if w.Broken() != (e != api.OK) || !tells(t, w).same(expect) {
				t.Fatalf("stopped behind %d with %d: broken %v, %+v", k, e, w.Broken(), tells(t, w))
			}
			if !slices.Equal(w.Disk().Pending(), ref.Pending()) || !slices.Equal(holds(t, w.Disk()), holds(t, ref)) {
				t.Fatalf("stopped behind %d with %d: pending %v, want %v", k, e, w.Disk().Pending(), ref.Pending())
			}
			counts(t, "operations", w.Disk().Ops(), ops+k)
			if e != api.OK {
				w.Disk().Crash(nil)
				refusesWrite(t, "Append, broken", w, func() api.Errno { return w.Append(nil) }, api.ErrIo)
				refusesWrite(t, "Checkpoint, broken", w, func() api.Errno { return w.Checkpoint(nil) }, api.ErrIo)
			}
		}
	}
}

// P4.3: the last turn has no next one.
func TestLastTurn(t *testing.T) {
	d := newDisk(t, 14)
	lay(t, d, 0, headOf(math.MaxUint32-1, 6))
	lay(t, d, 2, frameOf(math.MaxUint32-1, 0, nil)...)
	w := opened(t, d)
	answers(t, "Checkpoint", w.Checkpoint([]byte("last")), api.OK)
	want := told{turn: math.MaxUint32, left: 5, snapshot: []byte("last")}
	for range 2 {
		if got := tells(t, w); !got.same(want) {
			t.Errorf("%+v", got)
		}
		for _, n := range []int{0, 1000, 40000} {
			refusesWrite(t, "Checkpoint", w, func() api.Errno { return w.Checkpoint(make([]byte, n)) }, api.ErrFull)
		}
		refusesWrite(t, "Checkpoint", w, func() api.Errno { return w.Checkpoint(make([]byte, 40001)) }, api.ErrLong)
		answers(t, "Append", w.Append([]byte("a")), api.OK)
		want = want.with([]byte("a"))
		w = opened(t, d)
	}
}

// P4.3: turns go on, and each area is used again; what an older turn left there is not taken for this one's.
func TestTurns(t *testing.T) {
	w := formatted(t, 5)
	want := told{left: 4}
	for i := range 40 {
		s := step{checkpoint: i%3 == 2, b: (i * 13) % 60}
		answers(t, "a step", s.do(w, i), api.OK)
		want = s.told(want, 5, i)
		if got := tells(t, w); !got.same(want) {
			t.Fatalf("step %d: %+v", i, got)
		}
		if got := tells(t, opened(t, w.Disk().Copy())); !got.same(want) {
			t.Fatalf("step %d, opened: %+v", i, got)
		}
	}
}
