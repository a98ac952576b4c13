package store_test

import (
	"bytes"
	"fmt"
	"math"
	"slices"
	"strings"
	"testing"

	"heliograph/api"
	"heliograph/disk"
	"heliograph/octet"
	"heliograph/store"
	"heliograph/sum"
	"heliograph/wal"
)

func put(name string, b ...byte) api.FileOp {
	return api.FileOp{Kind: api.FilePut, Name: name, Bytes: b}
}

func write(name string, at int, b ...byte) api.FileOp {
	return api.FileOp{Kind: api.FileWrite, Name: name, At: at, Bytes: b}
}

func rename(name, to string) api.FileOp {
	return api.FileOp{Kind: api.FileName, Name: name, New: to}
}

func drop(name string) api.FileOp {
	return api.FileOp{Kind: api.FileDrop, Name: name}
}

func ops(l ...api.FileOp) []api.FileOp {
	return l
}

func file(name string, b ...byte) api.File {
	return api.File{Name: name, Bytes: b}
}

// fill is n bytes, others for each seed, none of them a nought.
func fill(seed, n int) []byte {
	b := make([]byte, n)
	for i := range b {
		b[i] = byte(1 + (seed*31+i*7)%255)
	}
	return b
}

// puts are n operations, each of a file of its own.
func puts(n int) []api.FileOp {
	var l []api.FileOp
	for i := range n {
		l = append(l, put(fmt.Sprintf("%02d", i), byte(i)))
	}
	return l
}

// heavy are ten operations on the file a whose bytes (5) are n, and behind which it has the bytes of the last one.
func heavy(t *testing.T, n int) []api.FileOp {
	t.Helper()
	var l []api.FileOp
	left := n - 2
	for i := range 10 {
		size := min(left-5*(10-i), api.MaxFile)
		l = append(l, put("a", fill(i, size)...))
		left -= 5 + size
	}
	if left != 0 || len(opsBytes(l...)) != n {
		t.Fatalf("%d bytes of operations, want %d", len(opsBytes(l...)), n)
	}
	return l
}

// opsBytes and filesBytes lay bytes as the words of chapter 5 say it, whatever they are handed.
func opsBytes(l ...api.FileOp) []byte {
	b := []byte{byte(len(l) >> 8), byte(len(l))}
	for _, o := range l {
		b = append(append(b, byte(o.Kind), byte(len(o.Name))), o.Name...)
		switch o.Kind {
		case api.FilePut:
			b = counted(b, o.Bytes)
		case api.FileWrite:
			b = counted(append(b, byte(o.At>>8), byte(o.At)), o.Bytes)
		case api.FileName:
			b = append(append(b, byte(len(o.New))), o.New...)
		}
	}
	return b
}

func filesBytes(l ...api.File) []byte {
	b := []byte{byte(len(l) >> 8), byte(len(l))}
	for _, x := range l {
		b = counted(append(append(b, byte(len(x.Name))), x.Name...), x.Bytes)
	}
	return b
}

func counted(b, x []byte) []byte {
	return append(append(b, byte(len(x)>>8), byte(len(x))), x...)
}

func newDisk(t *testing.T, sectors int) *disk.Disk {
	t.Helper()
	d, e := disk.New(sectors)
	if e != api.OK {
		t.Fatal("disk.New", e)
	}
	return d
}

// formatted is a store on a disk that has just the room for it.
func formatted(t *testing.T, area int) *store.Store {
	t.Helper()
	s, e := store.Format(newDisk(t, 2+2*area), area)
	if e != api.OK {
		t.Fatal("Format", e)
	}
	return s
}

func opened(t *testing.T, d *disk.Disk) *store.Store {
	t.Helper()
	s, e := store.Open(d)
	if e != api.OK {
		t.Fatal("Open", e)
	}
	return s
}

// logged is a disk whose log has this snapshot and these transactions, whatever they are.
func logged(t *testing.T, area int, snapshot []byte, list ...[]byte) *disk.Disk {
	t.Helper()
	d := newDisk(t, 2+2*area)
	w, e := wal.Format(d, area)
	if e == api.OK && len(snapshot) > 0 {
		e = w.Checkpoint(snapshot)
	}
	for _, b := range list {
		if e == api.OK {
			e = w.Append(b)
		}
	}
	if e != api.OK {
		t.Fatal("the log itself", e)
	}
	return d
}

// lastTurn is a disk whose log is in its last turn, with a snapshot that fills one sector: no checkpoint has room there.
func lastTurn(t *testing.T, area int, snapshot []byte) *disk.Disk {
	t.Helper()
	d := newDisk(t, 2+2*area)
	head := octet.Put32(octet.Put32([]byte("heliowal"), math.MaxUint32), uint32(area))
	head = append(head, make([]byte, 44)...)
	title := octet.Put16(octet.Put16(octet.Put32(octet.Put32(nil, math.MaxUint32), 0), 0), 1)
	var body [48]byte
	copy(body[:], slices.Concat(octet.Put32(nil, uint32(len(snapshot))), snapshot))
	part := octet.Put32(title, sum.Sum32(slices.Concat(title, body[:])))
	d.Write(1, api.Block(octet.Put32(head, sum.Sum32(head))))
	d.Write(2+area, api.Block(append(part, body[:]...)))
	if e := d.Sync(); e != api.OK {
		t.Fatal("Sync", e)
	}
	return d
}

func answers(t *testing.T, what string, got, want api.Errno) {
	t.Helper()
	if got != want {
		t.Errorf("%s: %d, want %d", what, got, want)
	}
}

func counts(t *testing.T, what string, got, want int) {
	t.Helper()
	if got != want {
		t.Errorf("%s: %d, want %d", what, got, want)
	}
}

// commits does the operations, which must be OK.
func commits(t *testing.T, s *store.Store, l ...api.FileOp) {
	t.Helper()
	if e := s.Commit(l...); e != api.OK {
		t.Fatalf("Commit of %d operations: %d", len(l), e)
	}
}

// fills commits the operation, which fills one sector, till so many sectors are left of the log.
func fills(t *testing.T, s *store.Store, left int, o api.FileOp) {
	t.Helper()
	for range s.Wal().Left() - left {
		commits(t, s, o)
	}
	if s.Wal().Left() != left {
		t.Fatalf("%d sectors are left, want %d", s.Wal().Left(), left)
	}
}

// has tells whether the store has just these files, by Files and by Get.
func has(t *testing.T, what string, s *store.Store, want ...api.File) {
	t.Helper()
	if got := s.Files(); !alike(got.List, want) {
		t.Errorf("%s: the files are %s, want %s", what, short(got.List), short(want))
	}
	for _, x := range want {
		if b, e := s.Get(x.Name); e != api.OK || !bytes.Equal(b, x.Bytes) {
			t.Errorf("%s: Get(%q): %d bytes, error %d", what, x.Name, len(b), e)
		}
	}
}

// logHas tells whether the log has just this snapshot, and these transactions.
func logHas(t *testing.T, what string, w *wal.Wal, turn uint32, snapshot []byte, list ...[]byte) {
	t.Helper()
	var got [][]byte
	for _, b := range w.All() {
		got = append(got, b)
	}
	if w.Turn() != turn || !bytes.Equal(w.Snapshot(), snapshot) || !slices.EqualFunc(got, list, bytes.Equal) {
		t.Errorf("%s: turn %d, a snapshot of %d bytes, %d transactions", what, w.Turn(), len(w.Snapshot()), len(got))
	}
}

// alike is files.Same, told once more.
func alike(a, b []api.File) bool {
	return slices.EqualFunc(a, b, func(x, y api.File) bool {
		return x.Name == y.Name && bytes.Equal(x.Bytes, y.Bytes)
	})
}

// short tells files without all of their bytes.
func short(l []api.File) string {
	var s []string
	for _, x := range l {
		s = append(s, fmt.Sprintf("%q (%d) % x", x.Name, len(x.Bytes), x.Bytes[:min(8, len(x.Bytes))]))
	}
	return "[" + strings.Join(s, ", ") + "]"
}

// holds is all sectors of a disk, as a copy of it reads them, whatever it is set to.
func holds(t *testing.T, d *disk.Disk) []api.Block {
	t.Helper()
	c := d.Copy()
	c.Crash(all(len(c.Pending())))
	out := make([]api.Block, c.Len())
	for i := range out {
		b, e := c.Read(i)
		if e != api.OK {
			t.Fatal("Read", e)
		}
		out[i] = b
	}
	return out
}

func all(n int) []bool {
	out := make([]bool, n)
	for i := range out {
		out[i] = true
	}
	return out
}

// look is all that can be told of a store, its log and its disk, as a text.
func look(t *testing.T, s *store.Store) string {
	t.Helper()
	w := s.Wal()
	out := fmt.Sprintln(s.Files(), s.Broken(), w.Turn(), w.Left(), w.Snapshot())
	for i, b := range w.All() {
		out += fmt.Sprintln(i, b)
	}
	d := w.Disk()
	return out + fmt.Sprintln(d.Ops(), d.Dead(), d.Pending(), holds(t, d))
}

// refuses tells whether the call answers want, and nothing has changed that can be told.
func refuses(t *testing.T, what string, s *store.Store, want api.Errno, call func() api.Errno) {
	t.Helper()
	before := look(t, s)
	if e := call(); e != want {
		t.Errorf("%s: %d, want %d", what, e, want)
	}
	if look(t, s) != before {
		t.Errorf("%s: what was refused has changed something", what)
	}
}

// commitRefused is refuses of a Commit.
func commitRefused(t *testing.T, what string, s *store.Store, want api.Errno, l ...api.FileOp) {
	t.Helper()
	refuses(t, what, s, want, func() api.Errno { return s.Commit(l...) })
}

// broken is a store of the files a 01, b 02 whose log has failed with the error, at its first write.
func broken(t *testing.T, with api.Errno) *store.Store {
	t.Helper()
	s := formatted(t, 6)
	commits(t, s, put("a", 1), put("b", 2))
	if with == api.ErrDead {
		s.Wal().Disk().Arm(0)
	} else {
		s.Wal().Disk().Fail(0)
	}
	if e := s.Commit(put("c", 3)); e != with {
		t.Fatal("Commit", e)
	}
	return s
}

// dice is a row of numbers that is the same at each run.
type dice uint64

func (d *dice) below(n int) int {
	*d = *d*6364136223846793005 + 1442695040888963407
	return int(uint64(*d>>33) % uint64(n))
}
