package store_test

import (
	"slices"
	"testing"

	"heliograph/api"
	"heliograph/disk"
	"heliograph/files"
	"heliograph/store"
)

// step is a Commit of operations, or a Compact, if there are none.
type step []api.FileOp

func (l step) do(s *store.Store) api.Errno {
	if len(l) == 0 {
		return s.Compact()
	}
	return s.Commit(l...)
}

// left is what the step leaves of the files; the same, if it is refused.
func (l step) left(f []api.File) []api.File {
	g, e := files.Apply(api.Files{List: f}, l...)
	if e != api.OK {
		return f
	}
	return g.List
}

// area is that of all stores here: behind rows of it a step is appended, or is a checkpoint.
const area = 6

// rows are steps that lead to stores of many kinds: new, with room, with little, with none, behind one checkpoint and several.
func rows() [][]step {
	full := []step{{put("a", 1)}, {put("b", fill(1, 90)...)}, {put("c", 3)}, {drop("c")}}
	return [][]step{
		nil,
		{{put("a", 1), put("b", 2)}},
		{{put("b", fill(2, 120)...)}, {put("a", 1)}},
		full,
		append(slices.Clone(full), step{put("a", fill(3, 60)...)}),
		{{put("a", 1), put("b", 2)}, {}, {}, {write("a", 1, 7)}},
	}
}

// next are steps of which the power is taken.
func next() []step {
	return []step{
		{put("d", 4)},
		{put("a", fill(5, 100)...), put("e", 6)},
		{put("a", 7), rename("a", "b"), put("a", 8), write("b", 1, 9)},
		{put("b", fill(6, 180)...)},
		{put("a", 1), drop("a")},
		{},
	}
}

// after is a store to which the steps were done, and its files.
func after(t *testing.T, row []step) (*store.Store, []api.File) {
	t.Helper()
	s := formatted(t, area)
	var f []api.File
	for _, l := range row {
		if e := l.do(s); e != api.OK {
			t.Fatal("a step", e)
		}
		f = l.left(f)
	}
	has(t, "a row", s, f...)
	return s, f
}

// choices calls do with a disk as d behind a crash, for each choice of which pending writes live on.
func choices(d *disk.Disk, do func(d *disk.Disk)) {
	n := len(d.Pending())
	for bits := range 1 << n {
		keep := make([]bool, n)
		for i := range keep {
			keep[i] = bits>>i&1 == 1
		}
		c := d.Copy()
		c.Crash(keep)
		do(c)
	}
}

// settles tells whether Open of d finds one of may, wherever the power goes within Open, and whatever lives on of what it wrote.
func settles(t *testing.T, what string, d *disk.Disk, may ...[]api.File) {
	t.Helper()
	for n := 0; ; n++ {
		c := d.Copy()
		c.Arm(n)
		s, e := store.Open(c)
		if e == api.OK {
			c.Arm(-1)
			steady(t, what, s, may)
			return
		}
		if e != api.ErrDead || s != nil {
			t.Fatalf("%s: Open with %d operations: %d", what, n, e)
		}
		choices(c, func(c *disk.Disk) { steady(t, what, opened(t, c), may) })
	}
}

// steady tells whether a store that was opened has one of may, and is found so again, by an Open that writes nothing.
func steady(t *testing.T, what string, s *store.Store, may [][]api.File) {
	t.Helper()
	f := found(t, what, s, may)
	d := s.Wal().Disk()
	before := holds(t, d)
	has(t, what, opened(t, d), f...)
	if s.Broken() || len(d.Pending()) > 0 || !slices.Equal(holds(t, d), before) {
		t.Fatalf("%s: broken %v, pending %v", what, s.Broken(), d.Pending())
	}
}

// found is the files of a store that was opened; they must be one of may.
func found(t *testing.T, what string, s *store.Store, may [][]api.File) []api.File {
	t.Helper()
	f := s.Files().List
	if !slices.ContainsFunc(may, func(m []api.File) bool { return alike(f, m) }) {
		t.Fatalf("%s: Open found %s", what, short(f))
	}
	return f
}

// torn does a step behind a row, with the power going at each of its writes and syncs, and calls do with the disk for each choice of what lives on.
func torn(t *testing.T, row []step, l step, do func(d *disk.Disk, was, will []api.File)) {
	t.Helper()
	for n := 0; ; n++ {
		s, was := after(t, row)
		s.Wal().Disk().Arm(n)
		e := l.do(s)
		will := l.left(was)
		if e == api.ErrFull {
			has(t, "no room", s, was...)
			return
		}
		if e == api.OK {
			has(t, "done", s, will...)
			s.Wal().Disk().Arm(-1)
			choices(s.Wal().Disk(), func(d *disk.Disk) { do(d, will, will) })
			return
		}
		if e != api.ErrDead || !s.Broken() {
			t.Fatalf("the power goes behind %d: %d", n, e)
		}
		has(t, "cut off", s, was...)
		choices(s.Wal().Disk(), func(d *disk.Disk) { do(d, was, will) })
	}
}

// P6.4: the power goes at each write of a Commit and of a Compact, with each choice of sectors that live on, and again within Open.
func TestPower(t *testing.T) {
	for _, row := range rows() {
		for _, l := range next() {
			torn(t, row, l, func(d *disk.Disk, was, will []api.File) {
				settles(t, "a step that was cut off", d, was, will)
			})
		}
	}
}

// P6.4: what is done behind a step that was cut off lasts, too, and is cut off whole.
func TestPowerTwice(t *testing.T) {
	for i, row := range rows() {
		for k, l := range next() {
			again := next()[(i+k)%len(next())]
			torn(t, row, l, func(d *disk.Disk, _, _ []api.File) {
				first := opened(t, d).Files().List
				for n := 0; ; n++ {
					c := d.Copy()
					s := opened(t, c)
					c.Arm(n)
					e := again.do(s)
					will := again.left(first)
					if e != api.ErrDead {
						c.Crash(nil)
						has(t, "done", opened(t, c), s.Files().List...)
						return
					}
					for _, keep := range [][]bool{nil, all(9), {true, false, true, false, true}, {false, true, false, true, false, true}} {
						u := c.Copy()
						u.Crash(keep)
						steady(t, "a second step", opened(t, u), [][]api.File{first, will})
					}
				}
			})
		}
	}
}

// P6.4: a Compact that is cut off anywhere changes no files.
func TestPowerCompact(t *testing.T) {
	for _, row := range rows() {
		torn(t, row, step{}, func(d *disk.Disk, was, _ []api.File) {
			settles(t, "Compact", d, was)
		})
	}
}

// P6.4: the power goes at each write of a Format: there is no store, or one without files.
func TestPowerFormat(t *testing.T) {
	for n := 0; ; n++ {
		d := newDisk(t, 10)
		d.Arm(n)
		s, e := store.Format(d, 4)
		if e == api.OK {
			return
		}
		if s != nil || e != api.ErrDead {
			t.Fatal("Format", s != nil, e)
		}
		choices(d, func(d *disk.Disk) {
			s, e := store.Open(d)
			if e != api.OK && e != api.ErrWal || len(s.Files().List) > 0 {
				t.Fatal("Open behind a Format that was cut off", e)
			}
		})
	}
}

// P6.4: the disk fails at each operation of each step; behind that the power goes, or does not.
func TestFailing(t *testing.T) {
	for _, row := range rows() {
		for _, l := range next() {
			for n := 0; ; n++ {
				s, was := after(t, row)
				s.Wal().Disk().Fail(n)
				e := l.do(s)
				if e == api.OK || e == api.ErrFull {
					break
				}
				if e != api.ErrIo || !s.Broken() {
					t.Fatalf("failing behind %d: %d", n, e)
				}
				has(t, "failed", s, was...)
				choices(s.Wal().Disk(), func(d *disk.Disk) { settles(t, "a step that failed", d, was, l.left(was)) })
				// Of a sync that failed all writes are pending still: Open finds the step done, and need not write.
				found(t, "a step that failed, without a crash", opened(t, s.Wal().Disk()), [][]api.File{was, l.left(was)})
			}
		}
	}
}

// P6.4: a Commit of just MaxTx bytes and one of one more are cut off whole, too.
func TestPowerLong(t *testing.T) {
	for _, n := range []int{api.MaxTx, api.MaxTx + 1} {
		l := step(heavy(t, n))
		s := formatted(t, 1000)
		commits(t, s, put("a", 1), put("b", 2))
		was := s.Files().List
		will := l.left(was)
		for _, armed := range []int{0, 1, 30, 64, 65, 66, 67, 68, 300, 833, 834, 835} {
			d := s.Wal().Disk().Copy()
			u := opened(t, d)
			d.Arm(armed)
			e := l.do(u)
			for _, keep := range [][]bool{nil, all(armed), all(armed - armed/2)} {
				c := d.Copy()
				c.Crash(keep)
				if e == api.OK {
					steady(t, "done", opened(t, c), [][]api.File{will})
				} else {
					steady(t, "cut off", opened(t, c), [][]api.File{was, will})
				}
			}
		}
	}
}

// some is a step of a few operations, most of which are right.
func (d *dice) some(f []api.File) step {
	if d.below(8) == 0 {
		return nil
	}
	name := func() string {
		if len(f) > 0 && d.below(4) > 0 {
			return f[d.below(len(f))].Name
		}
		return string(rune('a' + d.below(6)))
	}
	var l step
	for range 1 + d.below(4) {
		switch d.below(7) {
		case 0:
			l = append(l, drop(name()))
		case 1:
			l = append(l, rename(name(), name()))
		case 2, 3:
			l = append(l, write(name(), d.below(3), fill(d.below(99), d.below(40))...))
		default:
			l = append(l, put(name(), fill(d.below(99), d.below(60))...))
		}
	}
	return l
}

// P6.4: long rows of steps, the power going anywhere, also within Open, and again.
func TestLongRows(t *testing.T) {
	oks, deads, refusals := 0, 0, 0
	for seed := range 150 {
		dice := dice(seed)
		s := formatted(t, 4+dice.below(9))
		d := s.Wal().Disk()
		var f []api.File
		for range 60 {
			l := dice.some(f)
			_, refused := files.Apply(api.Files{List: f}, l...)
			if dice.below(3) == 0 {
				d.Arm(dice.below(9))
			}
			switch e := l.do(s); {
			case e == api.OK && refused == api.OK:
				oks++
				f = l.left(f)
				has(t, "done", s, f...)
			case e == api.ErrDead:
				deads++
				has(t, "cut off", s, f...)
				s = revived(t, d, &dice)
				steady(t, "revived", s, [][]api.File{f, l.left(f)})
				f = s.Files().List
			case e == refused || e == api.ErrFull:
				refusals++
				has(t, "refused", s, f...)
			default:
				t.Fatalf("row %d: %d, want %d", seed, e, refused)
			}
			d.Arm(-1)
		}
	}
	if min(oks, deads, refusals) < 500 {
		t.Error("the rows have too little of something", oks, deads, refusals)
	}
}

// revived is the store of a disk whose power has gone, and may go again in each Open.
func revived(t *testing.T, d *disk.Disk, dice *dice) *store.Store {
	t.Helper()
	for {
		keep := make([]bool, len(d.Pending()))
		for i := range keep {
			keep[i] = dice.below(2) == 0
		}
		d.Crash(keep)
		d.Arm(dice.below(6))
		s, e := store.Open(d)
		if e == api.OK {
			d.Arm(-1)
			return s
		}
		answers(t, "Open", e, api.ErrDead)
	}
}
