package store_test

import (
	"testing"

	"heliograph/api"
	"heliograph/disk"
	"heliograph/store"
	"heliograph/wal"
)

// P6.1 to P6.3: the chapter's examples, in their order.
func TestExamples(t *testing.T) {
	d := newDisk(t, 10)
	s, e := store.Format(d, 4)
	answers(t, "Format", e, api.OK)
	answers(t, "Commit", s.Commit(put("a", 1), put("b", 2)), api.OK)
	has(t, "behind it", s, file("a", 1), file("b", 2))
	answers(t, "Commit", s.Commit(drop("a"), drop("c")), api.ErrNone)
	has(t, "behind what was refused", s, file("a", 1), file("b", 2))
	counts(t, "sectors left", s.Wal().Left(), 2)
	answers(t, "Commit", s.Commit(put("a", fill(1, 100)...)), api.OK)
	counts(t, "turn", int(s.Wal().Turn()), 1)
	answers(t, "Commit", s.Commit(put("c", fill(2, 200)...)), api.ErrFull)
	has(t, "opened", opened(t, d), file("a", fill(1, 100)...), file("b", 2))
	if s, e := store.Open(newDisk(t, 10)); s != nil || e != api.ErrWal {
		t.Error("Open of a new disk", s, e)
	}
	answers(t, "Commit", s.Commit(put("", 1)), api.ErrOps)
}

// P6.1: Format answers the log's error, and in its order.
func TestFormatErrors(t *testing.T) {
	dead, failing := newDisk(t, 10), newDisk(t, 10)
	dead.Arm(0)
	dead.Sync()
	failing.Fail(0)
	for _, c := range []struct {
		what string
		d    *disk.Disk
		area int
		want api.Errno
	}{
		{"no disk", nil, 4, api.ErrNil}, {"no disk and no area", nil, 3, api.ErrNil},
		{"an area that is too small", newDisk(t, 10), 3, api.ErrArg}, {"none at all", newDisk(t, 10), -1, api.ErrArg},
		{"one that is too great", newDisk(t, 2048), 1001, api.ErrArg}, {"a disk that is too small", newDisk(t, 9), 4, api.ErrArg},
		{"a dead disk and no area", dead, 3, api.ErrArg}, {"a dead disk", dead, 4, api.ErrDead},
		{"a failing disk", failing, 4, api.ErrIo},
	} {
		if s, e := store.Format(c.d, c.area); s != nil || e != c.want {
			t.Errorf("%s: a store %v, error %d, want %d", c.what, s != nil, e, c.want)
		}
	}
}

// P6.1: Format does to the disk just what the log's Format does, wherever it is stopped.
func TestFormatOperations(t *testing.T) {
	for n := 0; ; n++ {
		d := newDisk(t, 12)
		for i := range d.Len() {
			d.Write(i, api.Block(fill(i, 64)))
		}
		c := d.Copy()
		d.Arm(n)
		c.Arm(n)
		s, e := store.Format(d, 4)
		_, want := wal.Format(c, 4)
		answers(t, "Format", e, want)
		alikeDisks(t, "Format", d, c)
		if e == api.OK {
			return
		}
		if s != nil {
			t.Fatal("a store beside an error")
		}
	}
}

func alikeDisks(t *testing.T, what string, a, b *disk.Disk) {
	t.Helper()
	x, y := holds(t, a), holds(t, b)
	for i := range x {
		if x[i] != y[i] {
			t.Fatalf("%s: sector %d is not the same", what, i)
		}
	}
	p, q := a.Pending(), b.Pending()
	if len(p) != len(q) || a.Ops() != b.Ops() || a.Dead() != b.Dead() {
		t.Fatalf("%s: pending %v and %v, %d and %d operations", what, p, q, a.Ops(), b.Ops())
	}
	for i := range p {
		if p[i] != q[i] {
			t.Fatalf("%s: pending %v and %v", what, p, q)
		}
	}
}

// P6.1: what a new store has; Format of a store makes it empty.
func TestFormatNew(t *testing.T) {
	for _, area := range []int{4, 7, 1000} {
		s := formatted(t, area)
		for range 2 {
			has(t, "new", s)
			logHas(t, "new", s.Wal(), 0, nil)
			counts(t, "left", s.Wal().Left(), area-1)
			if s.Broken() {
				t.Error("a new store is broken")
			}
			has(t, "new, opened", opened(t, s.Wal().Disk()))
			commits(t, s, put("a", 1))
			answers(t, "Compact", s.Compact(), api.OK)
			commits(t, s, put("b", 1))
			again, e := store.Format(s.Wal().Disk(), area)
			answers(t, "Format", e, api.OK)
			s = again
		}
	}
}

// P6.1: Open answers the log's error, ahead of what the log has.
func TestOpenErrors(t *testing.T) {
	bad := logged(t, 4, []byte{9})
	headless := newDisk(t, 10)
	noSnapshot := formatted(t, 4).Wal().Disk()
	noSnapshot.Write(2, api.Block{})
	for _, c := range []struct {
		what string
		d    *disk.Disk
		want api.Errno
	}{
		{"no disk", nil, api.ErrNil}, {"no head", headless, api.ErrWal}, {"no snapshot", noSnapshot, api.ErrWal}, {"no files", bad, api.ErrStore},
	} {
		if s, e := store.Open(c.d); s != nil || e != c.want {
			t.Errorf("%s: a store %v, error %d, want %d", c.what, s != nil, e, c.want)
		}
	}
	for _, d := range []*disk.Disk{headless, noSnapshot, bad} {
		dead := d.Copy()
		dead.Arm(0)
		dead.Sync()
		if s, e := store.Open(dead); s != nil || e != api.ErrDead {
			t.Error("a dead disk", s != nil, e)
		}
	}
	for n := range 2 + 4 {
		d := bad.Copy()
		d.Fail(n)
		if s, e := store.Open(d); s != nil || e != api.ErrIo {
			t.Errorf("the disk fails at %d: a store %v, error %d", n, s != nil, e)
		}
	}
}

// P6.1: the disk's error of what Open writes, where a transaction was cut off.
func TestOpenErrorsOfWrites(t *testing.T) {
	s := formatted(t, 6)
	commits(t, s, put("a", 1))
	s.Wal().Disk().Arm(2)
	answers(t, "Commit", s.Commit(put("b", fill(1, 120)...)), api.ErrDead)
	s.Wal().Disk().Crash(all(2))
	for n := range 3 {
		dead, failing := s.Wal().Disk().Copy(), s.Wal().Disk().Copy()
		dead.Arm(n)
		failing.Fail(2 + 6 + n)
		if s, e := store.Open(dead); s != nil || e != api.ErrDead {
			t.Errorf("dead at %d: a store %v, error %d", n, s != nil, e)
		}
		if s, e := store.Open(failing); s != nil || e != api.ErrIo {
			t.Errorf("failing at %d: a store %v, error %d", n, s != nil, e)
		}
		has(t, "opened behind that", opened(t, failing), file("a", 1))
		dead.Crash(all(n))
		has(t, "opened behind that", opened(t, dead), file("a", 1))
	}
}

// P6.1: which snapshots are those of a log that has files, and which files these are.
func TestOpenSnapshots(t *testing.T) {
	big := file("b", fill(3, api.MaxFile)...)
	for _, c := range []struct {
		what     string
		snapshot []byte
		want     []api.File
	}{
		{"no bytes", nil, nil}, {"no files", filesBytes(), nil}, {"an empty one", filesBytes(file("a")), []api.File{file("a")}},
		{"two", filesBytes(file("a", 1, 2), big), []api.File{file("a", 1, 2), big}},
	} {
		s := opened(t, logged(t, 100, c.snapshot))
		has(t, c.what, s, c.want...)
		s = opened(t, logged(t, 100, c.snapshot, opsBytes(put("c", 3)), opsBytes(drop("c"), put("d"))))
		has(t, c.what+", and transactions", s, append(c.want, file("d"))...)
	}
	for what, b := range map[string][]byte{
		"one byte": {0}, "it ends too early": filesBytes(file("a", 1, 2))[:5], "too many bytes": append(filesBytes(file("a", 1)), 0),
		"names that fall": filesBytes(file("b"), file("a")), "a name twice": filesBytes(file("a"), file("a")), "no name": filesBytes(file("", 1)),
		"a name that is too long": filesBytes(file("abcdefghijklmnopqrstuvwxy", 1)), "a file that is too long": filesBytes(file("a", fill(1, api.MaxFile+1)...)),
		"operations": opsBytes(put("a", 1)),
	} {
		for _, list := range [][][]byte{nil, {opsBytes(put("a", 1))}} {
			if s, e := store.Open(logged(t, 100, b, list...)); s != nil || e != api.ErrStore {
				t.Errorf("%s: a store %v, error %d", what, s != nil, e)
			}
		}
	}
}

// wrong are transactions behind which a log of the file a 01 has no files.
func wrong() map[string][]byte {
	return map[string][]byte{
		"no bytes": nil, "one byte": {0}, "more than are counted": {0, 0, 0}, "fewer": {0, 1}, "no such Kind": opsBytes(api.FileOp{Kind: 5, Name: "a"}),
		"no name": opsBytes(put("", 1)), "it ends too early": opsBytes(put("x", 1, 2))[:7], "a file that is too long": opsBytes(put("x", fill(1, api.MaxFile+1)...)),
		"too many operations": opsBytes(append(puts(api.MaxOps), put("x"))...),
		"no such file":        opsBytes(drop("c")), "one that is gone": opsBytes(drop("a"), write("a", 0, 1)), "a place beyond its end": opsBytes(write("a", 2, 1)),
		"a first one that is right": opsBytes(put("x", 1), rename("c", "d")), "no room": opsBytes(puts(api.MaxFiles)...),
		"too long by writing": opsBytes(write("a", 1, fill(1, api.MaxFile)...)),
	}
}

// P6.1: a transaction that is not the bytes of operations, or whose operations Apply refuses, ahead of others and behind them.
func TestOpenTransactions(t *testing.T) {
	right := [][]byte{opsBytes(put("b", 2)), opsBytes(write("b", 1, 3), rename("b", "c2"))}
	for what, b := range wrong() {
		for at := range len(right) + 1 {
			list := append(append([][]byte{opsBytes(put("a", 1))}, right[:at]...), b)
			if s, e := store.Open(logged(t, 500, nil, append(list, right[at:]...)...)); s != nil || e != api.ErrStore {
				t.Errorf("%s, at %d: a store %v, error %d", what, at, s != nil, e)
			}
		}
	}
	d := logged(t, 500, nil, opsBytes(put("a", 1)), right[0], right[1], opsBytes())
	has(t, "all are right", opened(t, d), file("a", 1), file("c2", 2, 3))
	d = logged(t, 500, nil, opsBytes(puts(api.MaxOps)...))
	counts(t, "files", len(opened(t, d).Files().List), api.MaxOps)
}

// P6.1: an operation that would be right by itself is refused where the transactions ahead of it left nothing for it, and the other way round: they are gone through in their order.
func TestOpenOrder(t *testing.T) {
	snapshot := filesBytes(file("a", 1))
	if _, e := store.Open(logged(t, 8, snapshot, opsBytes(drop("b")), opsBytes(put("b", 1)))); e != api.ErrStore {
		t.Error("dropped ahead of its put", e)
	}
	has(t, "in order", opened(t, logged(t, 8, snapshot, opsBytes(put("b", 1)), opsBytes(drop("b")), opsBytes(put("a", 2)), opsBytes(put("a", 3)))), file("a", 3))
}

// P6.1: Open of what is right writes nothing, and reads each sector that the log reads once; Open of what has no files, too.
func TestOpenReadsOnly(t *testing.T) {
	for _, snapshot := range [][]byte{filesBytes(file("a", 1)), {9}} {
		d := logged(t, 6, snapshot, opsBytes(put("b", 2)))
		c := d.Copy()
		store.Open(d)
		if _, e := wal.Open(c); e != api.OK {
			t.Fatal("wal.Open", e)
		}
		alikeDisks(t, "Open", d, c)
	}
}

// P6.1: what the store that is opened does next goes behind what it found.
func TestOpenGoesOn(t *testing.T) {
	d := formatted(t, 6).Wal().Disk()
	for i := range 40 {
		s := opened(t, d)
		commits(t, s, put("a", fill(i, i)...), put(string(rune('b'+i%3)), byte(i)))
		if b, e := opened(t, d).Get("a"); e != api.OK || len(b) != i {
			t.Fatalf("opened behind %d: %d bytes, error %d", i, len(b), e)
		}
	}
}
