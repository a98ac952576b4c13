package wal_test

import (
	"math"
	"slices"
	"testing"

	"heliograph/api"
	"heliograph/disk"
	"heliograph/wal"
)

// P4.1: which areas and disks may be, and what is answered first.
func TestFormatErrors(t *testing.T) {
	for _, c := range []struct {
		sectors, area int
		want          api.Errno
	}{
		{10, 4, api.OK}, {9, 4, api.ErrArg}, {1, 4, api.ErrArg}, {2048, 4, api.OK},
		{10, 3, api.ErrArg}, {2048, 3, api.ErrArg}, {2048, 0, api.ErrArg}, {2048, -1, api.ErrArg},
		{11, 5, api.ErrArg}, {12, 5, api.OK},
		{2002, 1000, api.OK}, {2001, 1000, api.ErrArg}, {2048, 1000, api.OK},
		{2048, 1001, api.ErrArg}, {2048, math.MaxInt, api.ErrArg}, {2048, math.MinInt, api.ErrArg}, {2048, math.MaxInt/2 + 3, api.ErrArg},
	} {
		d := newDisk(t, c.sectors)
		w, e := wal.Format(d, c.area)
		answers(t, "Format", e, c.want)
		if (w == nil) != (c.want != api.OK) {
			t.Errorf("Format of %d sectors, areas of %d: a log %v beside %d", c.sectors, c.area, w != nil, e)
		}
		if c.want != api.OK && d.Ops() != 0 {
			t.Error("a refused Format touched the disk", c)
		}
	}
	for _, area := range []int{3, 4} {
		if w, e := wal.Format(nil, area); w != nil || e != api.ErrNil {
			t.Error("Format of nil", w, e)
		}
	}
}

// P4.1: ErrArg goes ahead of what the disk says.
func TestFormatDead(t *testing.T) {
	d := newDisk(t, 10)
	d.Arm(0)
	d.Sync()
	if w, e := wal.Format(d, 3); w != nil || e != api.ErrArg {
		t.Error(w, e)
	}
	if w, e := wal.Format(d, 5); w != nil || e != api.ErrArg {
		t.Error(w, e)
	}
	if w, e := wal.Format(d, 4); w != nil || e != api.ErrDead {
		t.Error(w, e)
	}
}

// P4.1: the writes and syncs, over whatever the disk held; sectors behind those of the log are left alone.
func TestFormatOperations(t *testing.T) {
	for _, area := range []int{4, 7} {
		d := newDisk(t, 2+2*area+3)
		for i := range d.Len() {
			lay(t, d, i, api.Block(fill(i, 64)))
		}
		var want []op
		for i := range 2 + 2*area {
			want = append(want, op{at: i})
		}
		want = append(want, syncs)
		want = append(want, writes(2, frameOf(0, 0, nil)...)...)
		want = append(want, syncs)
		want = append(want, writes(0, headOf(0, uint32(area)))...)
		want = append(want, syncs)
		does(t, d, 0, want, func(d *disk.Disk) api.Errno {
			w, e := wal.Format(d, area)
			if (w == nil) != (e != api.OK) {
				t.Error("a log beside an error, or none beside OK", e)
			}
			return e
		})
	}
}

// P4.1: what a new log tells, here and behind an Open; Format of a log makes it empty.
func TestFormatTells(t *testing.T) {
	for _, area := range []int{4, 5, 1000} {
		want := told{left: area - 1}
		w := formatted(t, area)
		for range 2 {
			if got := tells(t, w); !got.same(want) || w.Broken() {
				t.Errorf("areas of %d: %+v", area, got)
			}
			if got := tells(t, opened(t, w.Disk())); !got.same(want) {
				t.Errorf("areas of %d, opened: %+v", area, got)
			}
			answers(t, "Append", w.Append(fill(1, 3)), api.OK)
			answers(t, "Checkpoint", w.Checkpoint(fill(2, 3)), api.OK)
			answers(t, "Append", w.Append(fill(3, 3)), api.OK)
			d := w.Disk()
			again, e := wal.Format(d, area)
			answers(t, "Format", e, api.OK)
			if again.Disk() != d {
				t.Error("another disk")
			}
			w = again
		}
	}
}

// The layout itself, byte by byte: numbers have their highest byte first, the sum too.
func TestLayout(t *testing.T) {
	w := formatted(t, 4)
	answers(t, "Append", w.Append(fill(5, 50)), api.OK)
	b := holds(t, w.Disk())
	head := append([]byte("heliowal"), 0, 0, 0, 0, 0, 0, 0, 4)
	if !slices.Equal(b[0][:16], head) || !slices.Equal(b[0][16:60], make([]byte, 44)) {
		t.Errorf("head % x", b[0])
	}
	sum := check(b[0][:60])
	if !slices.Equal(b[0][60:], []byte{byte(sum >> 24), byte(sum >> 16), byte(sum >> 8), byte(sum)}) {
		t.Errorf("sum of the head % x", b[0][60:])
	}
	if !slices.Equal(b[3][:12], []byte{0, 0, 0, 0, 0, 0, 0, 1, 0, 0, 0, 2}) || !slices.Equal(b[3][16:20], []byte{0, 0, 0, 50}) || !slices.Equal(b[3][20:], fill(5, 50)[:44]) {
		t.Errorf("part 0 % x", b[3])
	}
	if !slices.Equal(b[4][:12], []byte{0, 0, 0, 0, 0, 0, 0, 1, 0, 1, 0, 2}) || !slices.Equal(b[4][16:22], fill(5, 50)[44:]) || !slices.Equal(b[4][22:], make([]byte, 42)) {
		t.Errorf("part 1 % x", b[4])
	}
}
