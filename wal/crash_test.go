package wal_test

import (
	"slices"
	"testing"

	"heliograph/api"
	"heliograph/disk"
	"heliograph/wal"
)

// choices calls do with a disk as d behind a crash, for each choice of which pending writes live on.
func choices(d *disk.Disk, do func(d *disk.Disk)) {
	n := len(d.Pending())
	for bits := range 1 << n {
		keep := make([]bool, n)
		for i := range keep {
			keep[i] = bits>>i&1 == 1
		}
		c := d.Copy()
		c.Crash(keep)
		do(c)
	}
}

// settles: Open of d finds one of may; Open of what Open left finds the same and writes nothing; and wherever the power goes within Open, whatever lives on, Open behind that finds the same, too. It answers the log.
func settles(t *testing.T, what string, d *disk.Disk, may ...told) *wal.Wal {
	t.Helper()
	for n := 0; ; n++ {
		c := d.Copy()
		c.Arm(n)
		w, e := wal.Open(c)
		if e == api.OK {
			c.Arm(-1)
			return steady(t, what, c, w, may)
		}
		if e != api.ErrDead || w != nil {
			t.Fatalf("%s: Open with %d operations: %d", what, n, e)
		}
		choices(c, func(c *disk.Disk) { steady(t, what, c, opened(t, c), may) })
	}
}

func steady(t *testing.T, what string, d *disk.Disk, w *wal.Wal, may []told) *wal.Wal {
	t.Helper()
	got := tells(t, w)
	if !slices.ContainsFunc(may, got.same) {
		t.Fatalf("%s: Open found %+v, may be %+v", what, got, may)
	}
	if w.Broken() || len(d.Pending()) > 0 {
		t.Fatalf("%s: broken %v, pending %v", what, w.Broken(), d.Pending())
	}
	before, ops := holds(t, d), d.Ops()
	again := opened(t, d)
	if !tells(t, again).same(got) {
		t.Fatalf("%s: opened again: %+v, at first %+v", what, tells(t, again), got)
	}
	area := got.left
	for _, b := range append([][]byte{got.snapshot}, got.list...) {
		area += wal.Sectors(len(b))
	}
	if !slices.Equal(holds(t, d), before) || len(d.Pending()) > 0 || d.Ops() != ops+2+area {
		t.Fatalf("%s: Open of what Open left wrote, or did %d operations", what, d.Ops()-ops)
	}
	return w
}

// next are calls of which the power is taken.
var next = []step{{b: 0}, {b: 44}, {b: 45}, {b: 100}, {b: 160}, {checkpoint: true, b: 0}, {checkpoint: true, b: 45}, {checkpoint: true, b: 150}}

// P4.5: the power goes at each operation of an Append and a Checkpoint, and each choice of sectors lives on; and the same of a second call behind it, over what the first one left.
func TestPower(t *testing.T) {
	for _, row := range steps {
		for i, s := range next {
			torn(t, row, s, func(d *disk.Disk, was, will told) {
				w := settles(t, "a call that was cut off", d, was, will)
				found := tells(t, w)
				again := next[(i+3)%len(next)]
				if again.do(opened(t, d), 99) != api.OK {
					return
				}
				settles(t, "a call behind it", d, again.told(found, 6, 99))
			})
		}
	}
}

// torn does s on a log that the steps have made, with the power going at each of its operations, and each choice of what lives on, and calls do with each disk, and what may be found there.
func torn(t *testing.T, row []step, s step, do func(d *disk.Disk, was, will told)) {
	t.Helper()
	for n := 0; ; n++ {
		w, was := after(t, 6, row)
		w.Disk().Arm(n)
		switch e := s.do(w, 88); {
		case e == api.ErrFull:
			return
		case e == api.OK:
			w.Disk().Arm(-1)
			do(w.Disk(), s.told(was, 6, 88), s.told(was, 6, 88))
			return
		case e != api.ErrDead || !w.Broken() || !tells(t, w).same(was):
			t.Fatalf("the power goes behind %d: %d, %+v", n, e, tells(t, w))
		}
		choices(w.Disk(), func(d *disk.Disk) { do(d, was, s.told(was, 6, 88)) })
	}
}

// P4.5: two calls, one behind the other, are cut off at each of their operations: what is left of the first never stands with what is left of the second.
func TestPowerTwice(t *testing.T) {
	for _, row := range steps[:4] {
		for _, s := range []step{{b: 100}, {checkpoint: true, b: 50}} {
			torn(t, row, s, func(d *disk.Disk, was, will told) {
				found := tells(t, opened(t, d))
				for _, s := range []step{{b: 99}, {checkpoint: true, b: 60}} {
					for n := 0; ; n++ {
						c := d.Copy()
						w := opened(t, c)
						c.Arm(n)
						if s.do(w, 99) != api.ErrDead {
							break
						}
						choices(c, func(c *disk.Disk) {
							got := tells(t, opened(t, c))
							if !got.same(found) && !got.same(s.told(found, 6, 99)) {
								t.Fatalf("found %+v, was %+v", got, found)
							}
						})
					}
				}
			})
		}
	}
}

// P4.5: parts of a transaction that was cut off do not stand with those of another one of the same number.
func TestMixed(t *testing.T) {
	w := formatted(t, 6)
	w.Disk().Arm(3)
	answers(t, "Append", w.Append(fill(1, 120)), api.ErrDead)
	w.Disk().Crash([]bool{false, true, true})
	w = opened(t, w.Disk())
	w.Disk().Arm(1)
	answers(t, "Append", w.Append(fill(2, 120)), api.ErrDead)
	w.Disk().Crash([]bool{true})
	if got := tells(t, opened(t, w.Disk())); !got.same(told{left: 5}) {
		t.Errorf("%+v", got)
	}
}

// P4.5: the disk fails at each operation of each call; behind that the power goes, or does not.
func TestFailing(t *testing.T) {
	for _, row := range steps {
		for _, s := range next {
			for n := 0; ; n++ {
				w, was := after(t, 6, row)
				w.Disk().Fail(n)
				e := s.do(w, 88)
				if e == api.ErrFull || e == api.OK {
					break
				}
				will := s.told(was, 6, 88)
				if e != api.ErrIo || !w.Broken() || !tells(t, w).same(was) {
					t.Fatalf("failing behind %d: %d, %+v", n, e, tells(t, w))
				}
				choices(w.Disk(), func(d *disk.Disk) { settles(t, "a call that failed", d, was, will) })
				if got := tells(t, opened(t, w.Disk())); !got.same(was) && !got.same(will) {
					t.Fatalf("failing behind %d, opened: %+v", n, got)
				}
			}
		}
	}
}

// P4.5: the disk fails at each operation of an Open that lays noughts: Open behind it finds the same.
func TestFailingOpen(t *testing.T) {
	w := formatted(t, 6)
	answers(t, "Append", w.Append([]byte("a")), api.OK)
	want := tells(t, w)
	w.Disk().Arm(3)
	answers(t, "Append", w.Append(fill(1, 150)), api.ErrDead)
	w.Disk().Crash(all(3))
	for n := range 2 + 6 + 3 + 1 {
		d := w.Disk().Copy()
		d.Fail(n)
		if w, e := wal.Open(d); w != nil || e != api.ErrIo {
			t.Fatalf("failing at %d: a log %v, %d", n, w != nil, e)
		}
		choices(d, func(d *disk.Disk) { settles(t, "an Open that failed", d, want) })
	}
}

// P4.1, P4.5: the power goes at each operation of a Format of a new disk: there is no log, or an empty one.
func TestPowerFormat(t *testing.T) {
	want := told{left: 3}
	for n := 0; ; n++ {
		d := newDisk(t, 10)
		d.Arm(n)
		_, e := wal.Format(d, 4)
		if e == api.OK {
			counts(t, "operations", n, 10+1+1+1+1+1)
			return
		}
		answers(t, "Format", e, api.ErrDead)
		choices(d, func(d *disk.Disk) {
			w, e := wal.Open(d)
			if e == api.OK && !tells(t, w).same(want) || e != api.OK && e != api.ErrWal {
				t.Fatal("Open behind a Format that was cut off", e)
			}
			if w, e := wal.Format(d, 4); e != api.OK || !tells(t, w).same(want) {
				t.Fatal("Format behind a Format that was cut off", e)
			}
		})
	}
}

// dice are numbers in an order that is always the same.
type dice uint64

func (d *dice) to(n int) int {
	*d = *d*6364136223846793005 + 1442695040888963407
	return int(uint64(*d)>>33) % n
}

// P4.5: long rows of calls, the power going anywhere, also within Open, and again.
func TestLongRows(t *testing.T) {
	for seed := range 200 {
		dice := dice(seed)
		area := 4 + dice.to(5)
		w := formatted(t, area)
		d, may := w.Disk(), []told{{left: area - 1}}
		for i := range 60 {
			s := step{checkpoint: dice.to(4) == 0, b: dice.to(200)}
			was := tells(t, w)
			will := s.told(was, area, i)
			if dice.to(3) == 0 {
				d.Arm(dice.to(8))
			}
			switch e := s.do(w, i); e {
			case api.OK:
				may = []told{will}
				d.Arm(-1)
			case api.ErrFull:
				d.Arm(-1)
			case api.ErrDead:
				may = []told{was, will}
				w = revived(t, d, &dice)
			default:
				t.Fatal("a step", e)
			}
			got := tells(t, w)
			if !slices.ContainsFunc(may, got.same) {
				t.Fatalf("row %d, step %d: %+v, may be %+v", seed, i, got, may)
			}
			may = []told{got}
		}
	}
}

// revived is the log of a disk whose power has gone, and may go again in each Open.
func revived(t *testing.T, d *disk.Disk, dice *dice) *wal.Wal {
	t.Helper()
	for {
		keep := make([]bool, len(d.Pending()))
		for i := range keep {
			keep[i] = dice.to(2) == 0
		}
		d.Crash(keep)
		d.Arm(dice.to(6))
		w, e := wal.Open(d)
		if e == api.OK {
			d.Arm(-1)
			return w
		}
		answers(t, "Open", e, api.ErrDead)
	}
}
