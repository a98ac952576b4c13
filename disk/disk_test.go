package disk_test

import (
	"math"
	"slices"
	"testing"

	"heliograph/api"
	"heliograph/disk"
)

// block answers a block that tells x by its first and its last byte, so that a block kept in part shows.
func block(x byte) api.Block {
	return api.Block{0: x, api.Sector - 1: x}
}

func fresh(t *testing.T, sectors int) *disk.Disk {
	t.Helper()
	d, e := disk.New(sectors)
	if e != api.OK || d == nil {
		t.Fatalf("New(%d): error %d", sectors, e)
	}
	return d
}

func answers(t *testing.T, what string, got, want api.Errno) {
	t.Helper()
	if got != want {
		t.Errorf("%s: error %d, want %d", what, got, want)
	}
}

func writes(t *testing.T, d *disk.Disk, i int, x byte) {
	t.Helper()
	if e := d.Write(i, block(x)); e != api.OK {
		t.Errorf("Write(%d, %d): error %d", i, x, e)
	}
}

func syncs(t *testing.T, d *disk.Disk) {
	t.Helper()
	answers(t, "Sync", d.Sync(), api.OK)
}

func crashes(t *testing.T, d *disk.Disk, keep ...bool) {
	t.Helper()
	answers(t, "Crash", d.Crash(keep), api.OK)
}

// holds looks at the sectors from 0 on.
func holds(t *testing.T, what string, d *disk.Disk, want ...byte) {
	t.Helper()
	for i, x := range want {
		if b, e := d.Read(i); e != api.OK || b != block(x) {
			t.Errorf("%s: sector %d holds %d .. %d, error %d; want %d", what, i, b[0], b[api.Sector-1], e, x)
		}
	}
}

func pending(t *testing.T, what string, d *disk.Disk, want ...int) {
	t.Helper()
	if got := d.Pending(); !slices.Equal(got, want) {
		t.Errorf("%s: pending %v, want %v", what, got, want)
	}
}

func ops(t *testing.T, what string, d *disk.Disk, want int) {
	t.Helper()
	if d.Ops() != want {
		t.Errorf("%s: %d operations, want %d", what, d.Ops(), want)
	}
}

// kill answers a disk of 4 sectors whose power has gone, with writes of 1 and 2 pending.
func kill(t *testing.T) *disk.Disk {
	t.Helper()
	d := fresh(t, 4)
	answers(t, "Arm", d.Arm(2), api.OK)
	writes(t, d, 1, 11)
	writes(t, d, 2, 12)
	answers(t, "the write at which the power goes", d.Write(3, block(13)), api.ErrDead)
	return d
}

// P2.1: the edges.
func TestNewTakesFrom1To2048Sectors(t *testing.T) {
	for _, n := range []int{math.MinInt, -1, 0, 2049, math.MaxInt} {
		if d, e := disk.New(n); d != nil || e != api.ErrArg {
			t.Errorf("New(%d): a disk: %t, error %d", n, d != nil, e)
		}
	}
	for _, n := range []int{1, 2, 4, 2047, 2048} {
		if d := fresh(t, n); d.Len() != n {
			t.Errorf("New(%d): %d sectors", n, d.Len())
		}
	}
}

// P2.1: noughts, power, not armed, not set to fail, nothing pending, nothing done.
func TestNewDiskIsBlankAndSound(t *testing.T) {
	d := fresh(t, 2048)
	if d.Dead() {
		t.Error("no power")
	}
	pending(t, "a new disk", d)
	ops(t, "a new disk", d, 0)
	holds(t, "a new disk", d, make([]byte, 2048)...)
	for i := range 2048 {
		writes(t, d, i, byte(i))
	}
	syncs(t, d)
	ops(t, "all read, written, synced", d, 2*2048+1)
}

// P2.1, R5: two disks are two.
func TestDisksGoOnByThemselves(t *testing.T) {
	a, b := fresh(t, 2), fresh(t, 2)
	writes(t, a, 0, 1)
	syncs(t, a)
	writes(t, a, 1, 2)
	holds(t, "the other disk", b, 0, 0)
	pending(t, "the other disk", b)
}

// P2.2.
func TestReadTellsTheLastWrite(t *testing.T) {
	d := fresh(t, 4)
	writes(t, d, 1, 5)
	writes(t, d, 3, 6)
	holds(t, "written", d, 0, 5, 0, 6)
	writes(t, d, 1, 7)
	writes(t, d, 1, 8)
	holds(t, "written again", d, 0, 8, 0, 6)
	syncs(t, d)
	holds(t, "synced", d, 0, 8, 0, 6)
	writes(t, d, 1, 0)
	holds(t, "noughts written over what is safe", d, 0, 0, 0, 6)
}

// P2.2: a block is kept whole, each byte of it.
func TestBlockIsKeptWhole(t *testing.T) {
	var b api.Block
	for i := range b {
		b[i] = byte(3*i + 1)
	}
	d := fresh(t, 1)
	answers(t, "Write", d.Write(0, b), api.OK)
	if got, e := d.Read(0); got != b || e != api.OK {
		t.Errorf("pending: % x, error %d", got, e)
	}
	syncs(t, d)
	if got, e := d.Read(0); got != b || e != api.OK {
		t.Errorf("safe: % x, error %d", got, e)
	}
}

// P2.2: there are no sectors below 0 and behind the last one; such a call changes nothing and is no operation.
func TestSectorsThatThereAreNot(t *testing.T) {
	for _, i := range []int{math.MinInt, -1, 4, 5, 2048, math.MaxInt} {
		d := fresh(t, 4)
		writes(t, d, 0, 1)
		answers(t, "Fail", d.Fail(0), api.OK)
		answers(t, "Arm", d.Arm(0), api.OK)
		if b, e := d.Read(i); e != api.ErrArg || b != (api.Block{}) {
			t.Errorf("Read(%d): error %d", i, e)
		}
		answers(t, "Write where no sector is", d.Write(i, block(9)), api.ErrArg)
		pending(t, "nothing was written", d, 0)
		ops(t, "nothing was done", d, 1)
		answers(t, "the failing still stands", d.Sync(), api.ErrIo)
		answers(t, "the arming still stands", d.Sync(), api.ErrDead)
	}
}

// R4: of a nil disk.
func TestNilDisk(t *testing.T) {
	var d *disk.Disk
	if b, e := d.Read(0); e != api.ErrNil || b != (api.Block{}) {
		t.Errorf("Read: error %d", e)
	}
	if b, e := d.Read(-1); e != api.ErrNil || b != (api.Block{}) {
		t.Errorf("Read(-1): error %d", e)
	}
	answers(t, "Write", d.Write(0, block(1)), api.ErrNil)
	answers(t, "Write(-1)", d.Write(-1, block(1)), api.ErrNil)
	answers(t, "Sync", d.Sync(), api.ErrNil)
	answers(t, "Arm", d.Arm(1), api.ErrNil)
	answers(t, "Arm(-1)", d.Arm(-1), api.ErrNil)
	answers(t, "Fail", d.Fail(1), api.ErrNil)
	answers(t, "Fail(-1)", d.Fail(-1), api.ErrNil)
	answers(t, "Crash", d.Crash([]bool{true}), api.ErrNil)
	answers(t, "Crash(nil)", d.Crash(nil), api.ErrNil)
	pending(t, "nil", d)
	ops(t, "nil", d, 0)
	if d.Len() != 0 || d.Dead() || d.Copy() != nil {
		t.Error("Len, Dead or Copy of nil")
	}
}

// P2.2, P2.4: without power; it goes ahead of a wrong sector, and what is told without the power is told still.
func TestWithoutPower(t *testing.T) {
	d := kill(t)
	if !d.Dead() {
		t.Error("power")
	}
	for _, i := range []int{-1, 0, 1, 4} {
		if b, e := d.Read(i); e != api.ErrDead || b != (api.Block{}) {
			t.Errorf("Read(%d): error %d", i, e)
		}
		answers(t, "Write", d.Write(i, block(1)), api.ErrDead)
	}
	answers(t, "Sync", d.Sync(), api.ErrDead)
	for _, n := range []int{-1, 0, 5} {
		answers(t, "Arm", d.Arm(n), api.ErrDead)
		answers(t, "Fail", d.Fail(n), api.ErrDead)
	}
	if !d.Dead() || d.Len() != 4 {
		t.Error("power again, or other sectors")
	}
	pending(t, "without power", d, 1, 2)
	ops(t, "without power", d, 2)
}

// P2.3, R3: each as often as it was written, in order; the list is the caller's to change.
func TestPending(t *testing.T) {
	d := fresh(t, 4)
	for _, i := range []int{2, 0, 2, 2, 3} {
		writes(t, d, i, 1)
	}
	pending(t, "five writes", d, 2, 0, 2, 2, 3)
	got := d.Pending()
	clear(got)
	_ = append(got[:1], 9, 9, 9)
	pending(t, "an answer was changed", d, 2, 0, 2, 2, 3)
	holds(t, "an answer was changed", d, 1, 0, 1, 1)
	syncs(t, d)
	pending(t, "synced", d)
	writes(t, d, 1, 2)
	pending(t, "written behind a sync", d, 1)
	crashes(t, d, true)
	pending(t, "crashed", d)
	ops(t, "Pending is no operation", d, 5+4+1+1)
}

// P2.4: armed with n, n writes and syncs are done; the one behind them is not done.
func TestArm(t *testing.T) {
	for n := range 6 {
		d := fresh(t, 4)
		writes(t, d, 0, 1)
		answers(t, "Arm", d.Arm(n), api.OK)
		for k := range n {
			if k%2 == 0 {
				writes(t, d, 1, byte(k+2))
			} else {
				syncs(t, d)
			}
			if d.Dead() {
				t.Fatalf("armed with %d, dead behind %d", n, k+1)
			}
		}
		was, done := d.Pending(), d.Ops()
		answers(t, "the write behind them", d.Write(2, block(9)), api.ErrDead)
		if !d.Dead() {
			t.Errorf("armed with %d: power", n)
		}
		pending(t, "nothing was written", d, was...)
		ops(t, "nothing was done", d, done)
	}
}

// P2.4: a sync at which the power goes makes nothing safe.
func TestArmedSyncIsNotDone(t *testing.T) {
	d := fresh(t, 2)
	writes(t, d, 0, 1)
	answers(t, "Arm", d.Arm(0), api.OK)
	answers(t, "Sync", d.Sync(), api.ErrDead)
	pending(t, "not synced", d, 0)
	crashes(t, d)
	holds(t, "not synced", d, 0, 0)
}

// P2.7: reads do not bring an armed disk nearer to its end.
func TestReadsOfAnArmedDisk(t *testing.T) {
	d := fresh(t, 2)
	answers(t, "Arm", d.Arm(1), api.OK)
	for range 5 {
		holds(t, "armed with 1", d, 0, 0)
	}
	writes(t, d, 0, 1)
	for range 5 {
		holds(t, "armed with 1, one done", d, 1, 0)
	}
	answers(t, "the write behind it", d.Write(0, block(2)), api.ErrDead)
}

// P2.4: below 0 the disk is not armed any more; armed anew, it is armed with that.
func TestArmAnew(t *testing.T) {
	for _, n := range []int{-1, -2, math.MinInt} {
		d := fresh(t, 1)
		answers(t, "Arm(0)", d.Arm(0), api.OK)
		answers(t, "Arm below 0", d.Arm(n), api.OK)
		for range 10 {
			writes(t, d, 0, 1)
			syncs(t, d)
		}
	}
	d := fresh(t, 1)
	answers(t, "Arm(0)", d.Arm(0), api.OK)
	answers(t, "Arm(2)", d.Arm(2), api.OK)
	writes(t, d, 0, 1)
	answers(t, "Arm(1)", d.Arm(1), api.OK)
	syncs(t, d)
	answers(t, "the write behind it", d.Write(0, block(2)), api.ErrDead)
	d = fresh(t, 1)
	answers(t, "Arm of the greatest", d.Arm(math.MaxInt), api.OK)
	writes(t, d, 0, 1)
}

// P2.2, P2.4: the operation behind n more fails, of whatever kind; it changes nothing, is not counted, and is the only one.
func TestFail(t *testing.T) {
	kinds := []struct {
		name string
		do   func(d *disk.Disk) api.Errno
	}{
		{"Read", func(d *disk.Disk) api.Errno { _, e := d.Read(0); return e }},
		{"Write", func(d *disk.Disk) api.Errno { return d.Write(0, block(7)) }},
		{"Sync", func(d *disk.Disk) api.Errno { return d.Sync() }},
	}
	for _, kind := range kinds {
		for n := range 5 {
			d := fresh(t, 2)
			writes(t, d, 0, 1)
			syncs(t, d)
			answers(t, "Fail", d.Fail(n), api.OK)
			for k := range n {
				answers(t, kind.name+" ahead of the one that fails", kinds[k%3].do(d), api.OK)
			}
			writesNow, done := d.Pending(), d.Ops()
			answers(t, kind.name, kind.do(d), api.ErrIo)
			if d.Dead() {
				t.Errorf("%s failed: no power", kind.name)
			}
			pending(t, kind.name+" failed", d, writesNow...)
			ops(t, kind.name+" failed", d, done)
			for range 5 {
				answers(t, kind.name+" behind the one that failed", kind.do(d), api.OK)
			}
		}
	}
}

// P2.2, R2: beside ErrIo there is no block.
func TestFailedReadTellsNothing(t *testing.T) {
	d := fresh(t, 1)
	writes(t, d, 0, 1)
	answers(t, "Fail", d.Fail(0), api.OK)
	if b, e := d.Read(0); e != api.ErrIo || b != (api.Block{}) {
		t.Errorf("% x, error %d", b, e)
	}
	holds(t, "behind it", d, 1)
}

// P2.4: below 0 the disk is not set to fail any more; set anew, it fails as it was set last.
func TestFailAnew(t *testing.T) {
	for _, n := range []int{-1, -2, math.MinInt} {
		d := fresh(t, 1)
		answers(t, "Fail(0)", d.Fail(0), api.OK)
		answers(t, "Fail below 0", d.Fail(n), api.OK)
		for range 10 {
			writes(t, d, 0, 1)
			holds(t, "not set to fail", d, 1)
		}
	}
	d := fresh(t, 1)
	answers(t, "Fail(0)", d.Fail(0), api.OK)
	answers(t, "Fail(1)", d.Fail(1), api.OK)
	writes(t, d, 0, 1)
	answers(t, "the one behind it", d.Sync(), api.ErrIo)
	answers(t, "Fail of the greatest", d.Fail(math.MaxInt), api.OK)
	syncs(t, d)
}

// P2.2, R2: where a disk fails and its power would go at one operation, it fails; the power goes at the next one.
func TestFailingGoesAheadOfThePower(t *testing.T) {
	d := fresh(t, 1)
	answers(t, "Arm", d.Arm(0), api.OK)
	answers(t, "Fail", d.Fail(0), api.OK)
	answers(t, "both at a write", d.Write(0, block(1)), api.ErrIo)
	if d.Dead() {
		t.Error("no power behind an operation that failed")
	}
	answers(t, "the next write", d.Write(0, block(1)), api.ErrDead)

	d = fresh(t, 1)
	answers(t, "Arm", d.Arm(1), api.OK)
	answers(t, "Fail", d.Fail(0), api.OK)
	answers(t, "a sync that fails", d.Sync(), api.ErrIo)
	syncs(t, d) // what failed was not done, so this is the one that an armed disk still does
	answers(t, "the one behind it", d.Sync(), api.ErrDead)

	d = fresh(t, 1)
	answers(t, "Arm", d.Arm(0), api.OK)
	answers(t, "Fail", d.Fail(0), api.OK)
	if _, e := d.Read(0); e != api.ErrIo {
		t.Errorf("a read that fails: error %d", e)
	}
	answers(t, "Sync", d.Sync(), api.ErrDead)
}

// P2.5: fewer and more places than are pending, in order, several of one sector.
func TestCrashKeepsWhatItIsTold(t *testing.T) {
	rows := []struct {
		name string
		keep []bool
		want []byte
	}{
		{"nil", nil, []byte{9, 0, 0}},
		{"no place", []bool{}, []byte{9, 0, 0}},
		{"all false", []bool{false, false, false, false}, []byte{9, 0, 0}},
		{"all true", []bool{true, true, true, true}, []byte{4, 2, 0}},
		{"more places", []bool{true, true, true, true, true, true, true}, []byte{4, 2, 0}},
		{"places behind the last alone", []bool{false, false, false, false, true, true}, []byte{9, 0, 0}},
		{"fewer places", []bool{true}, []byte{1, 0, 0}},
		{"the first and second", []bool{true, true}, []byte{1, 2, 0}},
		{"the third, not the fourth", []bool{false, false, true}, []byte{3, 0, 0}},
		{"the first and the third", []bool{true, false, true, false}, []byte{3, 0, 0}},
		{"the last alone", []bool{false, false, false, true}, []byte{4, 0, 0}},
		{"the second alone", []bool{false, true, false, false}, []byte{9, 2, 0}},
	}
	for _, r := range rows {
		d := fresh(t, 3)
		writes(t, d, 0, 9)
		syncs(t, d)
		writes(t, d, 0, 1)
		writes(t, d, 1, 2)
		writes(t, d, 0, 3)
		writes(t, d, 0, 4)
		was := slices.Clone(r.keep)
		crashes(t, d, r.keep...)
		holds(t, r.name, d, r.want...)
		pending(t, r.name, d)
		crashes(t, d)
		holds(t, r.name+", crashed again", d, r.want...)
		if !slices.Equal(was, r.keep) {
			t.Errorf("%s: what was handed in has changed", r.name)
		}
	}
}

// P2.5: the power comes again; not armed, not set to fail, whether the power had gone before or not.
func TestCrashGivesThePowerBack(t *testing.T) {
	d := kill(t)
	crashes(t, d, false, true)
	if d.Dead() {
		t.Error("no power")
	}
	holds(t, "crashed", d, 0, 0, 12, 0)
	for range 10 {
		writes(t, d, 0, 1)
		syncs(t, d)
	}

	d = fresh(t, 2)
	answers(t, "Arm", d.Arm(0), api.OK)
	answers(t, "Fail", d.Fail(0), api.OK)
	crashes(t, d)
	for range 10 {
		writes(t, d, 0, 1)
		holds(t, "crashed", d, 1, 0)
	}
}

// R3: keep is not kept, nor looked at behind its end.
func TestCrashDoesNotKeepItsList(t *testing.T) {
	room := []bool{true, true, true}
	d := fresh(t, 2)
	writes(t, d, 0, 1)
	writes(t, d, 1, 2)
	answers(t, "Crash", d.Crash(room[:1]), api.OK)
	holds(t, "one place", d, 1, 0)
	clear(room)
	holds(t, "the list was changed", d, 1, 0)
}

// P2.6.
func TestOpsCountsWhatWasDone(t *testing.T) {
	d := fresh(t, 2)
	writes(t, d, 0, 1)
	ops(t, "a write", d, 1)
	holds(t, "read", d, 1)
	ops(t, "a read", d, 2)
	syncs(t, d)
	ops(t, "a sync", d, 3)
	answers(t, "Fail", d.Fail(0), api.OK)
	answers(t, "Sync", d.Sync(), api.ErrIo)
	answers(t, "Arm", d.Arm(0), api.OK)
	answers(t, "Write", d.Write(0, block(1)), api.ErrDead)
	answers(t, "Sync", d.Sync(), api.ErrDead)
	answers(t, "no sector", d.Write(2, block(1)), api.ErrDead)
	_, _, _ = d.Len(), d.Dead(), d.Copy()
	ops(t, "what failed, and what was not done", d, 3)
	crashes(t, d)
	ops(t, "a crash", d, 3)
	syncs(t, d)
	ops(t, "ever", d, 4)
}

// P2.6: the same sectors, pending writes, power, arming, failing and Ops.
func TestCopyIsTheSame(t *testing.T) {
	d := fresh(t, 3)
	writes(t, d, 0, 1)
	syncs(t, d)
	writes(t, d, 0, 2)
	writes(t, d, 1, 3)
	answers(t, "Arm", d.Arm(1), api.OK)
	answers(t, "Fail", d.Fail(2), api.OK)
	c := d.Copy()
	if c.Len() != 3 || c.Dead() {
		t.Error("Len or Dead")
	}
	ops(t, "the copy", c, 4)
	pending(t, "the copy", c, 0, 1)
	holds(t, "the copy", c, 2, 3)
	answers(t, "the copy's failing", c.Sync(), api.ErrIo)
	writes(t, c, 2, 4)
	answers(t, "the copy's arming", c.Sync(), api.ErrDead)
	if !c.Copy().Dead() {
		t.Error("the copy of a disk without power has power")
	}
	crashes(t, c, false, true)
	holds(t, "the copy, crashed", c, 1, 3, 0)
}

// P2.6: a disk and its copy go on by themselves, both ways, with any number of pending writes: a list has room behind its end or not.
func TestCopyGoesOnByItself(t *testing.T) {
	for n := range 10 {
		for _, swap := range []bool{false, true} {
			a := fresh(t, 2)
			writes(t, a, 0, 1)
			syncs(t, a)
			for range n {
				writes(t, a, 0, 2)
			}
			ahead := a.Pending()
			b := a.Copy()
			if swap {
				a, b = b, a
			}
			writes(t, a, 1, 9)
			writes(t, b, 0, 8)
			pending(t, "the one", a, append(slices.Clone(ahead), 1)...)
			pending(t, "the other", b, append(slices.Clone(ahead), 0)...)
			syncs(t, a)
			writes(t, a, 0, 7)
			answers(t, "Arm", a.Arm(0), api.OK)
			answers(t, "Sync", a.Sync(), api.ErrDead)
			if b.Dead() {
				t.Error("the other has lost its power")
			}
			holds(t, "the other", b, 8, 0)
			ops(t, "the other", b, n+5)
			crashes(t, b)
			holds(t, "the other, crashed", b, 1, 0)
		}
	}
}

// P2.7: what was synced is held behind any crash; a sector holds behind any crash what it held at some time since the last sync.
func TestAnyCrash(t *testing.T) {
	start := fresh(t, 3)
	writes(t, start, 0, 1)
	writes(t, start, 1, 2)
	syncs(t, start)
	held := [3][]byte{{1}, {2}, {0}}
	for k, i := range []int{0, 1, 0, 2, 0} {
		writes(t, start, i, byte(10+k))
		held[i] = append(held[i], byte(10+k))
	}
	for bits := range 1 << 5 {
		var keep []bool
		for k := range 5 {
			keep = append(keep, bits>>k&1 == 1)
		}
		d := start.Copy()
		crashes(t, d, keep...)
		for i := range 3 {
			b, e := d.Read(i)
			if e != api.OK || b != block(b[0]) || !slices.Contains(held[i], b[0]) {
				t.Errorf("keep %v: sector %d holds %d, error %d; it held %v", keep, i, b[0], e, held[i])
			}
		}
	}
	syncs(t, start)
	for bits := range 1 << 5 {
		d := start.Copy()
		crashes(t, d, bits&1 == 1, bits&2 == 2)
		holds(t, "synced, crashed", d, 14, 11, 13)
	}
}
