package wal

import (
	"heliograph/api"
	"heliograph/disk"
	"heliograph/octet"
)

// fits answers whether there may be such an area, and the disk has room for two.
func fits(d *disk.Disk, area int) bool {
	return area >= api.MinArea && area <= api.MaxArea && d.Len() >= needed(area)
}

// read answers n sectors from at on.
func read(d *disk.Disk, at, n int) ([]api.Block, api.Errno) {
	var out []api.Block
	for i := range n {
		b, e := d.Read(at + i)
		if e != api.OK {
			return nil, e
		}
		out = append(out, b)
	}
	return out, api.OK
}

// counting answers what the head says that counts.
func counting(d *disk.Disk) (turn uint32, area int, e api.Errno) {
	both, e := read(d, 0, heads)
	if e != api.OK {
		return 0, 0, e
	}
	for i, b := range both {
		t, n := said(b)
		right := b == head(t, n) && place(t) == i && fits(d, int(n))
		if right && (area == 0 || t > turn) {
			turn, area = t, int(n)
		}
	}
	if area == 0 {
		return 0, 0, api.ErrWal
	}
	return turn, area, api.OK
}

// said answers the turn and the area of which a head speaks, if it is one.
func said(b api.Block) (turn, area uint32) {
	r := octet.Read(b[len(letters):])
	turn = r.U32()
	return turn, r.U32()
}

// begin lays the turn's snapshot and only then, when that is safe, the head by which it counts.
func begin(d *disk.Disk, area int, turn uint32, b []byte) api.Errno {
	if e := lay(d, first(turn, area), turn, 0, b); e != api.OK {
		return e
	}
	if e := d.Write(place(turn), head(turn, uint32(area))); e != api.OK {
		return e
	}
	return d.Sync()
}

// lay writes a frame's sectors from at on, and syncs.
func lay(d *disk.Disk, at int, turn, number uint32, b []byte) api.Errno {
	for i, p := range parts(turn, number, b) {
		if e := d.Write(at+i, p); e != api.OK {
			return e
		}
	}
	return d.Sync()
}

// blank writes noughts to the sectors, in their order, and syncs.
func blank(d *disk.Disk, sectors []int) api.Errno {
	for _, i := range sectors {
		if e := d.Write(i, api.Block{}); e != api.OK {
			return e
		}
	}
	return d.Sync()
}

// upTo answers the numbers from 0 on, n of them.
func upTo(n int) []int {
	out := make([]int, n)
	for i := range out {
		out[i] = i
	}
	return out
}
