package store_test

import (
	"bytes"
	"fmt"
	"slices"
	"testing"

	"heliograph/api"
	"heliograph/store"
)

// spoil changes all bytes of b, and the room behind its end.
func spoil(b []byte) {
	b = b[:cap(b)]
	for i := range b {
		b[i] ^= 0xff
	}
}

// roomy is b with room behind its end, which holds 55.
func roomy(b []byte) []byte {
	out := bytes.Repeat([]byte{0x55}, len(b)+9)
	copy(out, b)
	return out[:len(b)]
}

// both are ways on which a Commit goes: it is appended, or the files are a checkpoint.
func both(t *testing.T, do func(s *store.Store)) {
	t.Helper()
	s := formatted(t, 40)
	commits(t, s, put("old", 1, 2, 3))
	do(s)
	counts(t, "turn", int(s.Wal().Turn()), 0)
	fills(t, s, 0, put("old", 1, 2, 3))
	do(s)
	counts(t, "turn", int(s.Wal().Turn()), 1)
}

// R3: what is handed to Commit is not changed, the room behind the ends of its lists neither, be it refused or not.
func TestHandedInStays(t *testing.T) {
	both(t, func(s *store.Store) {
		for _, last := range []api.FileOp{put("z", 9), drop("gone"), put("")} {
			whole := ops(put("a", 1, 2), write("old", 1, 7, 7, 7, 7), last, put("behind", 5))
			for i := range whole {
				whole[i].Bytes = roomy(whole[i].Bytes)
			}
			say := func() string {
				out := fmt.Sprint(whole)
				for _, o := range whole {
					out += fmt.Sprint(o.Bytes[:cap(o.Bytes)])
				}
				return out
			}
			before := say()
			s.Commit(whole[:3]...)
			if say() != before {
				t.Error("what was handed in has changed")
			}
		}
	})
}

// R3: what is handed to Commit is not kept, neither by the files nor by the log.
func TestHandedInIsNotKept(t *testing.T) {
	both(t, func(s *store.Store) {
		l := ops(put("a", 1, 2), put("b"), write("b", 0, 3, 4))
		for i := range l {
			l[i].Bytes = roomy(l[i].Bytes)
		}
		commits(t, s, l...)
		before := look(t, s)
		for i := range l {
			spoil(l[i].Bytes)
			l[i] = drop("nobody")
		}
		if look(t, s) != before {
			t.Error("the store has changed with what was handed in")
		}
		has(t, "behind that", s, file("a", 1, 2), file("b", 3, 4), file("old", 1, 2, 3))
		commits(t, s, drop("a"), drop("b"))
	})
}

// R3: what Files and Get answer is new memory each time, and no two lists of an answer share any.
func TestAnswersAreNew(t *testing.T) {
	s := formatted(t, 40)
	commits(t, s, put("a", 1, 2), put("b", 3), put("c"))
	answers(t, "Compact", s.Compact(), api.OK)
	commits(t, s, put("d", 4))
	want := []api.File{file("a", 1, 2), file("b", 3), file("c"), file("d", 4)}
	for _, s := range []*store.Store{s, opened(t, s.Wal().Disk())} {
		before := look(t, s)
		f, again := s.Files(), s.Files()
		b, _ := s.Get("a")
		for i := range f.List {
			rest := slices.Clone(f.List)
			_ = append(f.List[i].Bytes, 9, 9, 9, 9)
			spoil(f.List[i].Bytes)
			for k := i + 1; k < len(rest); k++ {
				if !alike(rest[k:k+1], want[k:k+1]) {
					t.Errorf("files %d and %d share memory", i, k)
				}
			}
			f.List[i].Name = "x"
		}
		_ = append(f.List, file("y"))
		spoil(b)
		if look(t, s) != before || !alike(again.List, want) {
			t.Error("the store, or another answer, has changed with an answer")
		}
		has(t, "behind that", s, want...)
	}
}

// R3: what was answered stays as it was, whatever is done to the store behind that.
func TestAnswersStay(t *testing.T) {
	s := formatted(t, 40)
	commits(t, s, put("a", 1, 2), put("b", 3))
	f := s.Files()
	b, _ := s.Get("a")
	commits(t, s, write("a", 0, 9), rename("a", "b"))
	commits(t, s, put("0"), write("b", 1, 8))
	answers(t, "Compact", s.Compact(), api.OK)
	if !alike(f.List, []api.File{file("a", 1, 2), file("b", 3)}) || !bytes.Equal(b, []byte{1, 2}) {
		t.Error("what was answered has changed", short(f.List), b)
	}
	has(t, "the store", s, file("0"), file("b", 9, 8))
}

// R3: a Commit that fails in the midst leaves the files that there are, in whatever memory they are.
func TestFailedCommitStays(t *testing.T) {
	for n := range 3 {
		s := formatted(t, 40)
		commits(t, s, put("a", fill(1, 60)...), put("b", 3))
		s.Wal().Disk().Fail(n)
		answers(t, "Commit", s.Commit(write("a", 0, fill(7, 60)...), drop("b")), api.ErrIo)
		has(t, "behind it", s, file("a", fill(1, 60)...), file("b", 3))
	}
}

// R5: two stores to which the same was done tell the same, and their disks hold the same; one goes on without the other.
func TestAlike(t *testing.T) {
	make := func() *store.Store {
		s := formatted(t, 9)
		for i := range 20 {
			s.Commit(put(fmt.Sprint(i%7), fill(i, i*3)...), put("x", byte(i)))
		}
		return s
	}
	a, b := make(), make()
	if look(t, a) != look(t, b) {
		t.Error("they are not alike")
	}
	before := look(t, b)
	commits(t, a, put("x", 99))
	if look(t, b) != before {
		t.Error("one has changed with the other")
	}
}
