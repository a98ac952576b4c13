package wal_test

import (
	"math"
	"slices"
	"testing"

	"heliograph/api"
	"heliograph/disk"
	"heliograph/wal"
)

func refusesOpen(t *testing.T, what string, d *disk.Disk, want api.Errno) {
	t.Helper()
	before, ops := holds(t, d), d.Ops()
	w, e := wal.Open(d)
	if w != nil || e != want {
		t.Errorf("%s: a log %v, error %d, want %d", what, w != nil, e, want)
	}
	if !slices.Equal(holds(t, d), before) || d.Ops() > ops+2+1000 {
		t.Errorf("%s: a refused Open wrote", what)
	}
}

// laid is a disk with these heads, and frames in both areas of 6.
func laid(t *testing.T, sectors int, zero, one api.Block, area0, area1 []api.Block) *disk.Disk {
	t.Helper()
	d := newDisk(t, sectors)
	lay(t, d, 0, zero, one)
	lay(t, d, 2, area0...)
	lay(t, d, 8, area1...)
	return d
}

// P4.2: the errors ahead of the heads.
func TestOpenErrors(t *testing.T) {
	if w, e := wal.Open(nil); w != nil || e != api.ErrNil {
		t.Error("Open of nil", w, e)
	}
	refusesOpen(t, "a new disk", newDisk(t, 10), api.ErrWal)
	refusesOpen(t, "two sectors", newDisk(t, 2), api.ErrWal)
	refusesOpen(t, "one sector", newDisk(t, 1), api.ErrArg)
	d := formatted(t, 4).Disk()
	d.Arm(0)
	d.Sync()
	if w, e := wal.Open(d); w != nil || e != api.ErrDead {
		t.Error("Open without power", w, e)
	}
}

// P4.2: each read can fail; heads are read ahead of all else, and an area that does not count is not read.
func TestOpenReads(t *testing.T) {
	for _, area := range []int{4, 9} {
		w := formatted(t, area)
		answers(t, "Append", w.Append(fill(1, 60)), api.OK)
		for n := range 2 + area {
			d := w.Disk().Copy()
			d.Fail(n)
			if w, e := wal.Open(d); w != nil || e != api.ErrIo {
				t.Errorf("failing at %d: a log %v, %d", n, w != nil, e)
			}
		}
		d := w.Disk().Copy()
		d.Fail(2 + area)
		ops := d.Ops()
		opened(t, d)
		counts(t, "operations of Open", d.Ops()-ops, 2+area)
	}
	for n, want := range []api.Errno{api.ErrIo, api.ErrIo, api.ErrWal} {
		d := newDisk(t, 10)
		d.Fail(n)
		if w, e := wal.Open(d); w != nil || e != want {
			t.Errorf("a new disk, failing at %d: %d, want %d", n, e, want)
		}
	}
}

// P4.2: a head that is wrong in one place is none.
func TestHeadWrong(t *testing.T) {
	one := frameOf(6, 0, []byte("s"))
	good := headOf(6, 6)
	if got := tells(t, opened(t, laid(t, 14, good, api.Block{}, one, nil))); !got.same(told{turn: 6, left: 5, snapshot: []byte("s")}) {
		t.Errorf("the right head: %+v", got)
	}
	for i := range good {
		bad := good
		bad[i] ^= 1
		refusesOpen(t, "a byte of the head", laid(t, 14, bad, api.Block{}, one, nil), api.ErrWal)
		if i < 8 || i >= 16 && i < 60 {
			refusesOpen(t, "a byte of the head under its right sum", laid(t, 14, headSum(bad), api.Block{}, one, nil), api.ErrWal)
		}
	}
	for _, c := range []struct {
		what    string
		sectors int
		at      int
		head    api.Block
	}{
		{"the sector of the other turn", 14, 1, good},
		{"a turn of the other sector", 14, 0, headOf(7, 6)},
		{"one sector fewer than the areas need", 13, 0, good},
		{"an area of 3", 2048, 0, headOf(6, 3)},
		{"an area of 0", 2048, 0, headOf(6, 0)},
		{"an area of 1001", 2048, 0, headOf(6, 1001)},
		{"an area of 2^31", 2048, 0, headOf(6, 1<<31)},
		{"an area of 2^31 and 6", 2048, 0, headOf(6, 1<<31+6)},
		{"an area of 2^32 - 1", 2048, 0, headOf(6, math.MaxUint32)},
	} {
		d := newDisk(t, c.sectors)
		lay(t, d, c.at, c.head)
		lay(t, d, 2, one...)
		refusesOpen(t, c.what, d, api.ErrWal)
	}
	sumLowFirst := good
	slices.Reverse(sumLowFirst[60:])
	refusesOpen(t, "a sum with its lowest byte first", laid(t, 14, sumLowFirst, api.Block{}, one, nil), api.ErrWal)
}

// P4.2: of two right heads the one with the greater turn counts, with its own area, whatever stands in the other one.
func TestHeadCounts(t *testing.T) {
	for _, c := range []struct {
		zero, one uint32
		want      uint32
	}{
		{0, 1, 1}, {2, 1, 2}, {4, 9, 9}, {1 << 31, 1<<31 - 1, 1 << 31}, {1 << 31, 1, 1 << 31}, {2, math.MaxUint32, math.MaxUint32},
	} {
		d := laid(t, 14, headOf(c.zero, 6), headOf(c.one, 6), frameOf(c.zero, 0, []byte("zero")), frameOf(c.one, 0, []byte("one")))
		want := told{turn: c.want, left: 5, snapshot: []byte("zero")}
		if c.want == c.one {
			want.snapshot = []byte("one")
		}
		if got := tells(t, opened(t, d)); !got.same(want) {
			t.Errorf("turns %d and %d: %+v", c.zero, c.one, got)
		}
	}
	// The head that counts is not right: the other one counts.
	for _, bad := range []api.Block{headOf(1, 7), headOf(1, 3), {1, 2, 3}} {
		d := laid(t, 14, headOf(0, 6), bad, frameOf(0, 0, []byte("zero")), nil)
		if got := tells(t, opened(t, d)); got.turn != 0 || string(got.snapshot) != "zero" {
			t.Errorf("the other head is wrong: %+v", got)
		}
	}
	// It is right, but its snapshot does not stand: the other one does not come in for it.
	refusesOpen(t, "no snapshot where it counts", laid(t, 14, headOf(0, 6), headOf(1, 6), frameOf(0, 0, nil), nil), api.ErrWal)
	// Each head speaks of its own size of areas.
	d := newDisk(t, 14)
	lay(t, d, 0, headOf(0, 6), headOf(1, 4))
	lay(t, d, 2, frameOf(0, 0, []byte("zero"))...)
	lay(t, d, 6, frameOf(1, 0, []byte("one"))...)
	if got := tells(t, opened(t, d)); !got.same(told{turn: 1, left: 3, snapshot: []byte("one")}) {
		t.Errorf("areas of 4: %+v", got)
	}
}

// P4.2: a head with the least area, and the greatest one.
func TestHeadAreas(t *testing.T) {
	for _, area := range []int{4, 1000} {
		d := newDisk(t, 2+2*area)
		lay(t, d, 1, headOf(3, uint32(area)))
		lay(t, d, 2+area, frameOf(3, 0, fill(1, 100))...)
		want := told{turn: 3, left: area - 3, snapshot: fill(1, 100)}
		if got := tells(t, opened(t, d)); !got.same(want) {
			t.Errorf("areas of %d: left %d", area, got.left)
		}
	}
}

// spoilt is frames with one sector of them otherwise.
func spoilt(frames []api.Block, at int, change func(b *api.Block)) []api.Block {
	out := slices.Clone(frames)
	change(&out[at])
	return out
}

// P4.2: a frame does not stand, if one of its parts is otherwise in one place.
func TestFrameWrong(t *testing.T) {
	good := frameOf(6, 0, fill(1, 100))
	d := laid(t, 14, headOf(6, 6), api.Block{}, good, nil)
	if got := tells(t, opened(t, d)); !got.same(told{turn: 6, left: 3, snapshot: fill(1, 100)}) {
		t.Errorf("the right snapshot: %+v", got)
	}
	for at := range good {
		for i := range 64 {
			bad := spoilt(good, at, func(b *api.Block) { b[i] ^= 1 })
			refusesOpen(t, "a byte of a part", laid(t, 14, headOf(6, 6), api.Block{}, bad, nil), api.ErrWal)
			// Other bytes are another right frame, and so are 101 of them, the last one a nought.
			content := i >= 16 && !(at == 0 && i < 19) && !(at == 2 && i >= 16+104-96)
			if i >= 12 && i < 16 || content {
				continue
			}
			// Under its right sum: another turn, number, part or count, and what is no nought behind the bytes.
			bad = spoilt(good, at, func(b *api.Block) { b[i] ^= 1; *b = partSum(*b) })
			refusesOpen(t, "a byte of a part under its right sum", laid(t, 14, headOf(6, 6), api.Block{}, bad, nil), api.ErrWal)
		}
	}
}

// P4.2: counts that no frame has, and frames that pass the area's end.
func TestFrameCounts(t *testing.T) {
	count := func(n uint32, parts uint16) []api.Block {
		s := frameOf(6, 0, nil)[0]
		copy(s[16:], []byte{byte(n >> 24), byte(n >> 16), byte(n >> 8), byte(n)})
		s[10], s[11] = byte(parts>>8), byte(parts)
		return []api.Block{partSum(s)}
	}
	for _, n := range []uint32{45, 40000, 40001, 1<<31 - 1, 1 << 31, math.MaxUint32, math.MaxUint32 - 3} {
		refusesOpen(t, "a count", laid(t, 14, headOf(6, 6), api.Block{}, count(n, 1), nil), api.ErrWal)
		refusesOpen(t, "a count", laid(t, 14, headOf(6, 6), api.Block{}, count(n, uint16((uint64(n)+51)/48)), nil), api.ErrWal)
	}
	// The frame's last part stands behind the area of 6: in the other one.
	whole := frameOf(6, 0, fill(1, 44+48*6))
	refusesOpen(t, "a frame of 7 sectors", laid(t, 14, headOf(6, 6), api.Block{}, whole, whole[6:]), api.ErrWal)
	d := laid(t, 14, headOf(6, 6), api.Block{}, frameOf(6, 0, fill(1, 44+48*5)), nil)
	if got := tells(t, opened(t, d)); !got.same(told{turn: 6, snapshot: fill(1, 44+48*5)}) {
		t.Errorf("a frame of 6 sectors: %+v", got)
	}
	// The longest frame, and one of a byte more.
	for n, want := range map[int]api.Errno{40000: api.OK, 40001: api.ErrWal} {
		d := newDisk(t, 2002)
		lay(t, d, 0, headOf(6, 1000))
		lay(t, d, 2, frameOf(6, 0, fill(1, n))...)
		w, e := wal.Open(d)
		answers(t, "Open", e, want)
		if e == api.OK && !slices.Equal(w.Snapshot(), fill(1, n)) {
			t.Error("another snapshot")
		}
	}
}

// P4.2: where the chain ends, and that noughts are laid over what stands behind it, and over nothing else.
func TestChainEnds(t *testing.T) {
	snap := frameOf(6, 0, []byte("s"))
	first := frameOf(6, 1, fill(1, 45))
	second := frameOf(6, 2, []byte("2"))
	for _, c := range []struct {
		what  string
		area  []api.Block
		list  [][]byte
		stray []int
	}{
		{"nothing behind the snapshot", snap, nil, nil},
		{"two transactions", slices.Concat(snap, first, second), [][]byte{fill(1, 45), []byte("2")}, nil},
		{"a full area", slices.Concat(snap, first, second, frameOf(6, 3, fill(3, 92))), [][]byte{fill(1, 45), []byte("2"), fill(3, 92)}, nil},
		{"the snapshot again", slices.Concat(snap, snap), nil, []int{1}},
		{"a number is left out", slices.Concat(snap, second), nil, []int{1}},
		{"a number comes again", slices.Concat(snap, first, first), [][]byte{fill(1, 45)}, []int{3, 4}},
		{"a gap", slices.Concat(snap, []api.Block{{}}, first), nil, []int{2, 3}},
		{"another turn", slices.Concat(snap, frameOf(4, 1, fill(1, 45))), nil, []int{1, 2}},
		{"the turn of the other area", slices.Concat(snap, frameOf(7, 1, fill(1, 45))), nil, []int{1, 2}},
		{"the second part is missing", slices.Concat(snap, first[:1]), nil, []int{1}},
		{"the first part is missing", slices.Concat(snap, []api.Block{{}}, first[1:]), nil, []int{2}},
		{"the second part stands ahead", slices.Concat(snap, first[1:], first[:1]), nil, []int{1, 2}},
		{"a wrong sum", slices.Concat(snap, spoilt(first, 1, func(b *api.Block) { b[12]++ })), nil, []int{1, 2}},
		{"a part of another count", slices.Concat(snap, first[:1], frameOf(6, 1, fill(1, 100))[1:2]), nil, []int{1, 2}},
		{"it passes the area's end", slices.Concat(snap, first, frameOf(6, 2, fill(2, 44+48*3)))[:6], [][]byte{fill(1, 45)}, []int{3, 4, 5}},
		{"the last byte of the last sector", slices.Concat(snap, make([]api.Block, 4), []api.Block{{63: 1}}), nil, []int{5}},
		{"noughts between", slices.Concat(snap, []api.Block{{1}, {}, {63: 9}, {}, {5: 5}}), nil, []int{1, 3, 5}},
		{"no frame, and a right one behind it", slices.Concat(snap, []api.Block{{7}}, first), nil, []int{1, 2, 3}},
	} {
		other := frameOf(5, 0, []byte("other"))
		d := laid(t, 16, headOf(6, 6), headOf(5, 6), c.area, other)
		lay(t, d, 14, api.Block{1}, api.Block{2})
		var want []op
		clean := holds(t, d)
		for _, i := range c.stray {
			want = append(want, op{at: 2 + i})
			clean[2+i] = api.Block{}
		}
		if len(want) > 0 {
			want = append(want, syncs)
		}
		does(t, d, 8, want, func(d *disk.Disk) api.Errno {
			w, e := wal.Open(d)
			if (w == nil) != (e != api.OK) {
				t.Error(c.what, "a log beside an error, or none beside OK", e)
			}
			return e
		})
		expect := told{turn: 6, left: 5, snapshot: []byte("s")}
		for _, b := range c.list {
			expect = expect.with(b)
		}
		if got := tells(t, opened(t, d)); !got.same(expect) {
			t.Errorf("%s: %+v", c.what, got)
		}
		if !slices.Equal(holds(t, d), clean) {
			t.Error(c.what, ": another disk")
		}
	}
}

// P4.2: the same in the area of the odd turns.
func TestChainOdd(t *testing.T) {
	area := slices.Concat(frameOf(7, 0, nil), frameOf(7, 1, []byte("a")), []api.Block{{}, {9}})
	d := laid(t, 14, headOf(6, 6), headOf(7, 6), frameOf(6, 0, nil), area)
	does(t, d, 8, []op{{at: 11}, syncs}, func(d *disk.Disk) api.Errno {
		_, e := wal.Open(d)
		return e
	})
	if got := tells(t, opened(t, d)); !got.same(told{turn: 7, left: 4, list: [][]byte{[]byte("a")}}) {
		t.Errorf("%+v", got)
	}
}

// P4.2: Open reads what the disk holds, also what is pending.
func TestOpenPending(t *testing.T) {
	d := newDisk(t, 14)
	for i, s := range slices.Concat([]api.Block{headOf(6, 6), {}}, frameOf(6, 0, nil)) {
		d.Write(i, s)
	}
	if got := tells(t, opened(t, d)); !got.same(told{turn: 6, left: 5}) {
		t.Errorf("%+v", got)
	}
	if !slices.Equal(d.Pending(), []int{0, 1, 2}) {
		t.Error("Open synced without having written", d.Pending())
	}
}
