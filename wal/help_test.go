package wal_test

import (
	"bytes"
	"encoding/binary"
	"hash/crc32"
	"slices"
	"testing"

	"heliograph/api"
	"heliograph/disk"
	"heliograph/wal"
)

// check is CRC-32C, from elsewhere than the program's.
func check(b []byte) uint32 {
	return crc32.Checksum(b, crc32.MakeTable(crc32.Castagnoli))
}

// headOf is a head, told once more as the chapter's words say it.
func headOf(turn, n uint32) api.Block {
	var b api.Block
	copy(b[:], "heliowal")
	binary.BigEndian.PutUint32(b[8:], turn)
	binary.BigEndian.PutUint32(b[12:], n)
	return headSum(b)
}

func headSum(b api.Block) api.Block {
	binary.BigEndian.PutUint32(b[60:], check(b[:60]))
	return b
}

// frameOf is a frame's sectors, told once more as the chapter's words say it.
func frameOf(turn, number uint32, b []byte) []api.Block {
	all := binary.BigEndian.AppendUint32(nil, uint32(len(b)))
	all = append(all, b...)
	for len(all)%48 != 0 {
		all = append(all, 0)
	}
	var out []api.Block
	for i := range len(all) / 48 {
		var s api.Block
		binary.BigEndian.PutUint32(s[0:], turn)
		binary.BigEndian.PutUint32(s[4:], number)
		binary.BigEndian.PutUint16(s[8:], uint16(i))
		binary.BigEndian.PutUint16(s[10:], uint16(len(all)/48))
		copy(s[16:], all[48*i:])
		out = append(out, partSum(s))
	}
	return out
}

func partSum(s api.Block) api.Block {
	binary.BigEndian.PutUint32(s[12:], check(slices.Concat(s[:12], s[16:])))
	return s
}

// fill is n bytes, others for each seed, none of them a nought.
func fill(seed, n int) []byte {
	b := make([]byte, n)
	for i := range b {
		b[i] = byte(1 + (seed*31+i*7)%255)
	}
	return b
}

func newDisk(t *testing.T, sectors int) *disk.Disk {
	t.Helper()
	d, e := disk.New(sectors)
	if e != api.OK {
		t.Fatal("disk.New", e)
	}
	return d
}

// formatted is a log on a disk that has just the room for it.
func formatted(t *testing.T, area int) *wal.Wal {
	t.Helper()
	w, e := wal.Format(newDisk(t, 2+2*area), area)
	if e != api.OK {
		t.Fatal("Format", e)
	}
	return w
}

func opened(t *testing.T, d *disk.Disk) *wal.Wal {
	t.Helper()
	w, e := wal.Open(d)
	if e != api.OK {
		t.Fatal("Open", e)
	}
	return w
}

func answers(t *testing.T, what string, got, want api.Errno) {
	t.Helper()
	if got != want {
		t.Errorf("%s: %d, want %d", what, got, want)
	}
}

func counts(t *testing.T, what string, got, want int) {
	t.Helper()
	if got != want {
		t.Errorf("%s: %d, want %d", what, got, want)
	}
}

// lay writes sectors to the disk, from at on, and syncs.
func lay(t *testing.T, d *disk.Disk, at int, sectors ...api.Block) {
	t.Helper()
	for i, s := range sectors {
		if e := d.Write(at+i, s); e != api.OK {
			t.Fatal("Write", e)
		}
	}
	if e := d.Sync(); e != api.OK {
		t.Fatal("Sync", e)
	}
}

// holds is all sectors of a disk, as a copy of it reads them, whatever it is set to.
func holds(t *testing.T, d *disk.Disk) []api.Block {
	t.Helper()
	c := d.Copy()
	c.Crash(all(len(c.Pending())))
	out := make([]api.Block, c.Len())
	for i := range out {
		b, e := c.Read(i)
		if e != api.OK {
			t.Fatal("Read", e)
		}
		out[i] = b
	}
	return out
}

func all(n int) []bool {
	out := make([]bool, n)
	for i := range out {
		out[i] = true
	}
	return out
}

// told is all that a log tells of what it has.
type told struct {
	turn     uint32
	left     int
	snapshot []byte
	list     [][]byte
}

func tells(t *testing.T, w *wal.Wal) told {
	t.Helper()
	out := told{turn: w.Turn(), left: w.Left(), snapshot: w.Snapshot()}
	for i, b := range w.All() {
		out.list = append(out.list, b)
		if i != len(out.list) {
			t.Errorf("transaction %d has the number %d", len(out.list), i)
		}
	}
	if w.Len() != len(out.list) {
		t.Errorf("Len %d of %d transactions", w.Len(), len(out.list))
	}
	return out
}

func (a told) same(b told) bool {
	return a.turn == b.turn && a.left == b.left && bytes.Equal(a.snapshot, b.snapshot) && slices.EqualFunc(a.list, b.list, bytes.Equal)
}

// with is a with one transaction more.
func (a told) with(b []byte) told {
	a.left -= (4 + len(b) + 47) / 48
	a.list = append(slices.Clone(a.list), b)
	return a
}

// renewed is a behind a checkpoint, in areas of so many sectors.
func (a told) renewed(area int, b []byte) told {
	return told{turn: a.turn + 1, left: area - (4+len(b)+47)/48, snapshot: b}
}

// op is a write of a sector, or a sync.
type op struct {
	sync bool
	at   int
	says api.Block
}

var syncs = op{sync: true}

func writes(at int, sectors ...api.Block) []op {
	var out []op
	for i, s := range sectors {
		out = append(out, op{at: at + i, says: s})
	}
	return out
}

func (o op) do(t *testing.T, d *disk.Disk) {
	t.Helper()
	e := api.OK
	if o.sync {
		e = d.Sync()
	} else {
		e = d.Write(o.at, o.says)
	}
	if e != api.OK {
		t.Fatal("the operation itself", e)
	}
}

// does tells whether call does just the operations of want behind so many reads, in their order: it stops it at each one, by power and by failing, and looks at what was done till then.
func does(t *testing.T, d *disk.Disk, reads int, want []op, call func(d *disk.Disk) api.Errno) {
	t.Helper()
	ref := d.Copy()
	for k := 0; k <= len(want); k++ {
		dead, fails := d.Copy(), d.Copy()
		dead.Arm(k)
		fails.Fail(reads + k)
		wantDead, wantFails := api.ErrDead, api.ErrIo
		if k == len(want) {
			wantDead, wantFails = api.OK, api.OK
		}
		answers(t, "armed", call(dead), wantDead)
		answers(t, "failing", call(fails), wantFails)
		for _, c := range []*disk.Disk{dead, fails} {
			if !slices.Equal(c.Pending(), ref.Pending()) || !slices.Equal(holds(t, c), holds(t, ref)) {
				t.Fatalf("behind %d operations: pending %v, want %v", k, c.Pending(), ref.Pending())
			}
			counts(t, "operations", c.Ops(), d.Ops()+reads+k)
		}
		if k < len(want) {
			want[k].do(t, ref)
		}
	}
}
