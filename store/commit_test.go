package store_test

import (
	"fmt"
	"strings"
	"testing"

	"heliograph/api"
	"heliograph/store"
	"heliograph/wal"
)

// P6.2: each operation, alone and with others, and what is found behind an Open.
func TestCommit(t *testing.T) {
	s := formatted(t, 40)
	for _, c := range []struct {
		l    []api.FileOp
		want []api.File
	}{
		{ops(put("b", 2)), []api.File{file("b", 2)}},
		{ops(put("a")), []api.File{file("a"), file("b", 2)}},
		{ops(write("a", 0, 1, 2), write("a", 1, 3, 4), put("c")), []api.File{file("a", 1, 3, 4), file("b", 2), file("c")}},
		{ops(rename("a", "b"), rename("c", "c")), []api.File{file("b", 1, 3, 4), file("c")}},
		{ops(drop("c"), put("c", 5), write("c", 1)), []api.File{file("b", 1, 3, 4), file("c", 5)}},
		{ops(put("\x00\xff", 0), drop("b")), []api.File{file("\x00\xff", 0), file("c", 5)}},
		{ops(put("c", 5)), []api.File{file("\x00\xff", 0), file("c", 5)}},
		{ops(drop("\x00\xff"), drop("c")), nil},
	} {
		before := s.Wal().Len()
		answers(t, "Commit", s.Commit(c.l...), api.OK)
		has(t, "behind it", s, c.want...)
		has(t, "opened", opened(t, s.Wal().Disk()), c.want...)
		counts(t, "transactions", s.Wal().Len(), before+1)
		for i, b := range s.Wal().All() {
			if i == s.Wal().Len() && string(b) != string(opsBytes(c.l...)) {
				t.Errorf("the transaction is % x, want % x", b, opsBytes(c.l...))
			}
		}
	}
}

// P6.2: no operations are OK, and nothing is done, also where nothing has room.
func TestCommitNothing(t *testing.T) {
	s := formatted(t, 4)
	commitRefused(t, "nothing", s, api.OK)
	commits(t, s, put("a", fill(1, 130)...))
	counts(t, "left", s.Wal().Left(), 0)
	commitRefused(t, "nothing", s, api.OK)
	commitRefused(t, "nothing", s, api.OK, []api.FileOp{}...)
	s.Wal().Disk().Arm(0)
	commitRefused(t, "nothing, armed", s, api.OK)
	s = opened(t, lastTurn(t, 4, nil))
	commits(t, s, put("a", fill(1, 130)...))
	commitRefused(t, "nothing, in the last turn", s, api.OK)
}

// P6.2: MaxOps operations, and one more.
func TestCommitMany(t *testing.T) {
	s := formatted(t, 40)
	more := append(puts(api.MaxOps), drop("00"))
	commitRefused(t, "one more", s, api.ErrLong, more...)
	commits(t, s, puts(api.MaxOps)...)
	counts(t, "files", len(s.Files().List), api.MaxOps)
	counts(t, "files, opened", len(opened(t, s.Wal().Disk()).Files().List), api.MaxOps)
	commitRefused(t, "one more", s, api.ErrLong, more...)
}

// unsaid are operations that have no bytes: EncodeOps refuses them.
func unsaid() map[string]api.FileOp {
	long := strings.Repeat("n", api.MaxName+1)
	return map[string]api.FileOp{
		"no Kind": {Name: "a"}, "no such Kind": {Kind: 5, Name: "a"}, "a Kind below 0": {Kind: -1, Name: "a"}, "a Kind beyond a byte": {Kind: 257, Name: "a"},
		"no name": put("", 1), "a name that is too long": put(long, 1), "no new name": rename("a", ""), "a new name that is too long": rename("a", long),
		"more bytes than a file has": put("a", fill(1, api.MaxFile+1)...), "more to write": write("a", 0, fill(1, api.MaxFile+1)...),
		"At below 0": write("a", -1, 1), "At beyond a file": write("a", api.MaxFile+1), "At of a put": {Kind: api.FilePut, Name: "a", At: 1},
		"New of a put": {Kind: api.FilePut, Name: "a", New: "b"}, "Bytes of a drop": {Kind: api.FileDrop, Name: "a", Bytes: []byte{1}},
	}
}

// undone are operations that Apply refuses behind put a 01, put b 02, and its error.
func undone() map[string]struct {
	op   api.FileOp
	want api.Errno
} {
	type row = struct {
		op   api.FileOp
		want api.Errno
	}
	return map[string]row{
		"drop":    {drop("c"), api.ErrNone},
		"name":    {rename("c", "a"), api.ErrNone},
		"write":   {write("c", 0, 1), api.ErrNone},
		"beyond":  {write("a", 2, 1), api.ErrArg},
		"far off": {write("a", api.MaxFile, 1), api.ErrArg},
		"long":    {write("a", 1, fill(1, api.MaxFile)...), api.ErrLong},
	}
}

// P6.2: operations that EncodeOps refuses and that Apply refuses, alone, ahead of others and behind them: nothing changes.
func TestCommitRefused(t *testing.T) {
	s := formatted(t, 8)
	commits(t, s, put("a", 1), put("b", 2))
	for what, o := range unsaid() {
		commitRefused(t, what, s, api.ErrOps, o)
		commitRefused(t, what, s, api.ErrOps, put("a", 7), o)
		commitRefused(t, what, s, api.ErrOps, o, put("a", 7))
	}
	for what, c := range undone() {
		commitRefused(t, what, s, c.want, c.op)
		commitRefused(t, what, s, c.want, put("x", 7), drop("b"), c.op)
		commitRefused(t, what, s, c.want, c.op, put("x", 7))
	}
	has(t, "behind all", s, file("a", 1), file("b", 2))
	if _, e := s.Get("x"); e != api.ErrNone {
		t.Error("Get of what was refused", e)
	}
	has(t, "opened", opened(t, s.Wal().Disk()), file("a", 1), file("b", 2))
	commits(t, s, drop("a"))
	has(t, "it goes on", s, file("b", 2))
}

// P6.2, R2: which error is answered of several.
func TestCommitOrder(t *testing.T) {
	s := formatted(t, 4)
	commits(t, s, put("a", 1))
	long := append(puts(api.MaxOps), put("", 1))
	commitRefused(t, "too many, ahead of what has no bytes", s, api.ErrLong, long...)
	commitRefused(t, "no bytes, ahead of what is not there", s, api.ErrOps, drop("c"), put("", 1))
	commitRefused(t, "the first that Apply refuses", s, api.ErrNone, drop("c"), write("a", 2, 1))
	commitRefused(t, "the first that Apply refuses", s, api.ErrArg, write("a", 2, 1), drop("c"))
	commitRefused(t, "what is not there, ahead of no room", s, api.ErrNone, put("b", fill(1, 4000)...), drop("c"))
	s.Wal().Disk().Arm(0)
	commitRefused(t, "no bytes, ahead of the power", s, api.ErrOps, put("", 1))
	commitRefused(t, "what is not there, ahead of the power", s, api.ErrNone, drop("c"))
	commitRefused(t, "no room, ahead of the power", s, api.ErrFull, put("b", fill(1, 4000)...))
	s.Wal().Disk().Fail(0)
	commitRefused(t, "no room, ahead of the disk's failing", s, api.ErrFull, put("b", fill(1, 4000)...))
	answers(t, "the disk's failing, ahead of the power", s.Commit(put("b", 1)), api.ErrIo)
}

// P6.2, R2: a broken store goes ahead of all but nil, also of no operations.
func TestCommitBroken(t *testing.T) {
	for _, with := range []api.Errno{api.ErrDead, api.ErrIo} {
		s := broken(t, with)
		for _, l := range [][]api.FileOp{nil, ops(put("a", 1)), ops(put("", 1)), ops(drop("c")), append(puts(api.MaxOps), put("x")), ops(put("b", fill(1, 4000)...))} {
			commitRefused(t, "broken", s, api.ErrIo, l...)
			answers(t, "nil", (*store.Store)(nil).Commit(l...), api.ErrNil)
		}
	}
}

// P6.2: bytes that fill just the sectors that are left are appended; one more, and the files are a checkpoint.
func TestCommitLeft(t *testing.T) {
	for _, area := range []int{6, 9} {
		s := formatted(t, area)
		commits(t, s, put("a", 1))
		fills(t, s, 2, put("a", 1))
		left := 2*48 - 4 - len(opsBytes(put("b")))
		c := opened(t, s.Wal().Disk().Copy())
		n := s.Wal().Len()

		commits(t, s, put("b", fill(1, left)...))
		counts(t, "turn", int(s.Wal().Turn()), 0)
		counts(t, "transactions", s.Wal().Len(), n+1)
		counts(t, "left", s.Wal().Left(), 0)

		commits(t, c, put("b", fill(1, left+1)...))
		logHas(t, "one more", c.Wal(), 1, filesBytes(file("a", 1), file("b", fill(1, left+1)...)))
		has(t, "one more", c, file("a", 1), file("b", fill(1, left+1)...))
		has(t, "one more, opened", opened(t, c.Wal().Disk()), file("a", 1), file("b", fill(1, left+1)...))

		commits(t, s, drop("b"))
		logHas(t, "none is left", s.Wal(), 1, filesBytes(file("a", 1)))
		has(t, "none is left, opened", opened(t, s.Wal().Disk()), file("a", 1))
	}
}

// P6.2: a checkpoint that has just room, and one that has not.
func TestCommitRoom(t *testing.T) {
	for _, area := range []int{4, 7} {
		room := 48*area - 4 - len(filesBytes(file("a"), file("b", 2)))
		s := formatted(t, area)
		commits(t, s, put("b", 2))
		commitRefused(t, "one more", s, api.ErrFull, put("a", fill(1, room+1)...))
		has(t, "behind what was refused", s, file("b", 2))
		commits(t, s, put("a", fill(1, room)...))
		logHas(t, "just room", s.Wal(), 1, filesBytes(file("a", fill(1, room)...), file("b", 2)))
		counts(t, "left", s.Wal().Left(), 0)
		want := []api.File{file("a", fill(1, room)...), file("b", 2)}
		has(t, "opened", opened(t, s.Wal().Disk()), want...)
		commitRefused(t, "one byte more", s, api.ErrFull, write("a", room, 1))
		commitRefused(t, "a name that is longer", s, api.ErrFull, rename("b", "bb"))
		has(t, "opened", opened(t, s.Wal().Disk()), want...)
		commits(t, s, write("a", 0, 9))
		counts(t, "turn", int(s.Wal().Turn()), 2)
		commits(t, s, drop("a"))
		has(t, "dropped", opened(t, s.Wal().Disk()), file("b", 2))
	}
}

// P6.2: just MaxTx bytes of operations are appended, one more is a checkpoint, be there room or not.
func TestCommitLong(t *testing.T) {
	for _, c := range []struct {
		n, turn, list int
	}{{api.MaxTx - 1, 0, 1}, {api.MaxTx, 0, 1}, {api.MaxTx + 1, 1, 0}, {api.MaxTx + 2, 1, 0}} {
		l := heavy(t, c.n)
		last := file("a", l[9].Bytes...)
		s := formatted(t, 1000)
		commits(t, s, l...)
		counts(t, "turn", int(s.Wal().Turn()), c.turn)
		counts(t, "transactions", s.Wal().Len(), c.list)
		has(t, "behind it", s, last)
		has(t, "opened", opened(t, s.Wal().Disk()), last)
		if c.list == 0 {
			logHas(t, "the files", s.Wal(), 1, filesBytes(last))
		}
	}
	s := formatted(t, 4)
	l := append(heavy(t, api.MaxTx+1), put("a", 1))
	fills(t, s, 0, put("b"))
	commits(t, s, l...)
	logHas(t, "no room for them at all", s.Wal(), 1, filesBytes(file("a", 1), file("b")))
}

// P6.2: Apply's ErrFull, with room in the log and without.
func TestCommitFull(t *testing.T) {
	s := formatted(t, 1000)
	commits(t, s, puts(api.MaxFiles)...)
	commitRefused(t, "one file more", s, api.ErrFull, put("x"))
	commits(t, s, drop("00"), put("x"))
	s = formatted(t, 1000)
	for i := range 8 {
		commits(t, s, put(fmt.Sprint(i), fill(i, api.MaxStored/8-1)...))
	}
	commitRefused(t, "one byte more", s, api.ErrFull, write("0", api.MaxStored/8-1, 1))
	commitRefused(t, "one file more", s, api.ErrFull, put("x"))
	answers(t, "Compact", s.Compact(), api.OK)
	counts(t, "files, opened", len(opened(t, s.Wal().Disk()).Files().List), 8)
}

// P6.2: in the last turn what has room is appended, and nothing else is done.
func TestCommitLastTurn(t *testing.T) {
	s := opened(t, lastTurn(t, 4, filesBytes(file("a", 1))))
	has(t, "opened", s, file("a", 1))
	commits(t, s, put("b", fill(1, 130)...))
	counts(t, "left", s.Wal().Left(), 0)
	commitRefused(t, "no room", s, api.ErrFull, drop("b"))
	has(t, "opened", opened(t, s.Wal().Disk()), file("a", 1), file("b", fill(1, 130)...))
}

// does tells whether call does to the disk just what ref does to its log, wherever the power goes or the disk fails.
func does(t *testing.T, what string, s *store.Store, call func(s *store.Store) api.Errno, ref func(w *wal.Wal) api.Errno) {
	t.Helper()
	for n, done := 0, 0; done < 2; n++ {
		done = 0
		for _, fail := range []bool{false, true} {
			d, c := s.Wal().Disk().Copy(), s.Wal().Disk().Copy()
			u := opened(t, d)
			w, _ := wal.Open(c)
			if fail {
				d.Fail(n)
				c.Fail(n)
			} else {
				d.Arm(n)
				c.Arm(n)
			}
			e, want := call(u), ref(w)
			answers(t, what, e, want)
			alikeDisks(t, what, d, c)
			if u.Broken() != (want != api.OK) {
				t.Fatalf("%s: broken %v beside %d", what, u.Broken(), want)
			}
			if want == api.OK {
				done++
			}
		}
	}
}

// P6.2: what a Commit and a Compact write, and the log's error wherever they are stopped.
func TestOperations(t *testing.T) {
	s := formatted(t, 6)
	commits(t, s, put("a", 1))
	short, long := put("b", fill(1, 50)...), put("b", fill(1, 200)...)
	does(t, "appended", s, func(s *store.Store) api.Errno { return s.Commit(short) }, func(w *wal.Wal) api.Errno { return w.Append(opsBytes(short)) })
	does(t, "a checkpoint", s, func(s *store.Store) api.Errno { return s.Commit(long) }, func(w *wal.Wal) api.Errno {
		return w.Checkpoint(filesBytes(file("a", 1), file("b", long.Bytes...)))
	})
	does(t, "Compact", s, (*store.Store).Compact, func(w *wal.Wal) api.Errno { return w.Checkpoint(filesBytes(file("a", 1))) })
}
