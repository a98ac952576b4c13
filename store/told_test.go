package store_test

import (
	"strings"
	"testing"

	"heliograph/api"
	"heliograph/store"
)

// P6.2: Compact makes the bytes of the files the snapshot, and changes no files.
func TestCompact(t *testing.T) {
	s := formatted(t, 6)
	answers(t, "Compact of no files", s.Compact(), api.OK)
	logHas(t, "no files", s.Wal(), 1, []byte{0, 0})
	has(t, "no files, opened", opened(t, s.Wal().Disk()))
	commits(t, s, put("b", 2))
	commits(t, s, put("a", 1))
	for turn := uint32(2); turn < 6; turn++ {
		answers(t, "Compact", s.Compact(), api.OK)
		logHas(t, "files", s.Wal(), turn, filesBytes(file("a", 1), file("b", 2)))
		has(t, "files", s, file("a", 1), file("b", 2))
		has(t, "files, opened", opened(t, s.Wal().Disk()), file("a", 1), file("b", 2))
	}
	commits(t, s, drop("a"), drop("b"))
	answers(t, "Compact", s.Compact(), api.OK)
	logHas(t, "none any more", s.Wal(), 6, []byte{0, 0})
	has(t, "none any more, opened", opened(t, s.Wal().Disk()))
}

// P6.2: behind a Compact there is room for what had none but by a checkpoint.
func TestCompactMakesRoom(t *testing.T) {
	s := formatted(t, 6)
	fills(t, s, 0, put("a", 1))
	answers(t, "Compact", s.Compact(), api.OK)
	counts(t, "left", s.Wal().Left(), 5)
	commits(t, s, put("b", 2))
	counts(t, "turn", int(s.Wal().Turn()), 1)
	counts(t, "transactions", s.Wal().Len(), 1)
}

// P6.2: Compact of files that fill just an area.
func TestCompactWhole(t *testing.T) {
	room := 48*5 - 4 - len(filesBytes(file("a")))
	s := formatted(t, 5)
	commits(t, s, put("a", fill(1, room)...))
	for range 3 {
		answers(t, "Compact", s.Compact(), api.OK)
		counts(t, "left", s.Wal().Left(), 0)
		has(t, "opened", opened(t, s.Wal().Disk()), file("a", fill(1, room)...))
	}
}

// P6.2, R2: what Compact answers if it is refused; nothing changes.
func TestCompactRefused(t *testing.T) {
	answers(t, "nil", (*store.Store)(nil).Compact(), api.ErrNil)
	for _, with := range []api.Errno{api.ErrDead, api.ErrIo} {
		s := broken(t, with)
		refuses(t, "broken", s, api.ErrIo, s.Compact)
	}
	s := opened(t, lastTurn(t, 4, filesBytes(file("a", 1))))
	refuses(t, "no room", s, api.ErrFull, s.Compact)
	commits(t, s, put("b", 2))
	refuses(t, "no room", s, api.ErrFull, s.Compact)
	s.Wal().Disk().Arm(0)
	refuses(t, "no room, ahead of the power", s, api.ErrFull, s.Compact)
	has(t, "behind that", s, file("a", 1), file("b", 2))
	s = broken(t, api.ErrIo)
	s.Wal().Disk().Arm(0)
	refuses(t, "broken, ahead of the power", s, api.ErrIo, s.Compact)
}

// P6.2: the log's error of a Compact breaks the store, and changes no files.
func TestCompactFails(t *testing.T) {
	for n := range 4 {
		s := formatted(t, 6)
		commits(t, s, put("a", 1))
		s.Wal().Disk().Fail(n)
		answers(t, "Compact", s.Compact(), api.ErrIo)
		if !s.Broken() {
			t.Error("not broken")
		}
		has(t, "broken", s, file("a", 1))
		has(t, "opened", opened(t, s.Wal().Disk()), file("a", 1))
	}
}

// P6.3: what Get answers, and Files behind what was refused.
func TestGet(t *testing.T) {
	s := formatted(t, 200)
	if b, e := s.Get("a"); len(b) != 0 || e != api.ErrNone {
		t.Error("Get of a new store", b, e)
	}
	long := strings.Repeat("z", api.MaxName)
	want := []api.File{file("a"), file("b", 2), file(long, fill(1, api.MaxFile)...)}
	commits(t, s, put("a"), put("b", 2), put(long, fill(1, api.MaxFile)...))
	has(t, "three", s, want...)
	for _, name := range []string{"", "c", "aa", long[1:], long + "z", "\x00"} {
		if b, e := s.Get(name); len(b) != 0 || e != api.ErrNone {
			t.Errorf("Get(%q): % x, error %d", name, b, e)
		}
	}
	answers(t, "Commit", s.Commit(drop("b"), drop("b")), api.ErrNone)
	has(t, "refused", s, want...)
	answers(t, "Commit", s.Commit(put("b", 9), put("", 9)), api.ErrOps)
	has(t, "refused", s, want...)
	has(t, "opened", opened(t, s.Wal().Disk()), want...)
}

// P6.3: a broken store tells what it had; only a new Open of its disk goes on.
func TestBroken(t *testing.T) {
	for _, with := range []api.Errno{api.ErrDead, api.ErrIo} {
		s := broken(t, with)
		d := s.Wal().Disk()
		for range 2 {
			if !s.Broken() || !s.Wal().Broken() {
				t.Error("not broken")
			}
			has(t, "broken", s, file("a", 1), file("b", 2))
			if b, e := s.Get("c"); len(b) != 0 || e != api.ErrNone {
				t.Error("Get of what was not done", b, e)
			}
			answers(t, "Commit", s.Commit(put("c", 3)), api.ErrIo)
			d.Crash(nil)
		}
		u := opened(t, d)
		if u.Broken() {
			t.Error("opened, and broken")
		}
		has(t, "opened", u, file("a", 1), file("b", 2))
		commits(t, u, put("c", 3))
		has(t, "it goes on", opened(t, d), file("a", 1), file("b", 2), file("c", 3))
	}
}

// P6.3: a store breaks with its log, whoever broke that.
func TestBrokenLog(t *testing.T) {
	s := formatted(t, 6)
	commits(t, s, put("a", 1))
	if s.Broken() {
		t.Error("broken")
	}
	s.Wal().Disk().Fail(0)
	s.Wal().Append(nil)
	if !s.Broken() {
		t.Error("not broken")
	}
	answers(t, "Commit", s.Commit(put("a", 2)), api.ErrIo)
	answers(t, "Compact", s.Compact(), api.ErrIo)
}

// P6.3: the log is the very one, on the very disk, also behind what changes it; and what the log tells the store tells, too.
func TestWal(t *testing.T) {
	d := newDisk(t, 14)
	s, e := store.Format(d, 6)
	answers(t, "Format", e, api.OK)
	w := s.Wal()
	if w == nil || w.Disk() != d {
		t.Fatal("another disk")
	}
	commits(t, s, put("a", 1))
	answers(t, "Compact", s.Compact(), api.OK)
	commits(t, s, put("b", 2))
	if s.Wal() != w || w.Turn() != 1 || w.Len() != 1 {
		t.Error("another log")
	}
	if s.Turn() != w.Turn() || s.Len() != w.Len() || s.Left() != w.Left() || s.Disk() != d {
		t.Error("it does not tell what its log tells")
	}
	if u := opened(t, d); u.Wal() == w || u.Wal().Disk() != d {
		t.Error("the log of a store that was opened is not its own, or on another disk")
	}
}

// R4: a nil store.
func TestNil(t *testing.T) {
	var s *store.Store
	if f := s.Files(); len(f.List) != 0 {
		t.Error("Files", f)
	}
	for _, name := range []string{"", "a"} {
		if b, e := s.Get(name); len(b) != 0 || e != api.ErrNil {
			t.Error("Get", b, e)
		}
	}
	if s.Broken() || s.Wal() != nil {
		t.Error("Broken, Wal", s.Broken(), s.Wal())
	}
}
