package wal

import (
	"iter"
	"slices"

	"heliograph/api"
	"heliograph/octet"
	"heliograph/sum"
)

const (
	letters = "heliowal"
	heads   = 2  // sectors ahead of the areas, and areas
	noughts = 44 // bytes of a head that say nothing
	size    = 4  // bytes of a frame's count, which go ahead of its bytes
	room    = 48 // bytes of a part's sector for these
	ahead   = api.Sector - room
)

// Sectors answers how many sectors a frame of n bytes fills; 0, if there is none such (P4.4).
func Sectors(n int) int {
	if n < 0 || n > api.MaxTx {
		return 0
	}
	return (size + n + room - 1) / room
}

// needed answers how many sectors a log with such areas has.
func needed(area int) int {
	return heads + heads*area
}

// first answers the first sector of the turn's area.
func first(turn uint32, area int) int {
	return heads + place(turn)*area
}

// place answers in which of the two a turn's head stands, and its chain.
func place(turn uint32) int {
	return int(turn % heads)
}

// head answers the sector of a turn's head.
func head(turn, area uint32) api.Block {
	b := octet.Put32([]byte(letters), turn)
	b = octet.Put32(b, area)
	b = append(b, make([]byte, noughts)...)
	return api.Block(octet.Put32(b, sum.Sum32(b)))
}

// parts tells a frame's sectors, each with its place among them.
func parts(turn, number uint32, b []byte) iter.Seq2[int, api.Block] {
	return func(yield func(int, api.Block) bool) {
		counted := slices.Concat(octet.Put32(nil, uint32(len(b))), b)
		of := Sectors(len(b))
		for i := range of {
			from := i * room
			until := min(from+room, len(counted))
			if !yield(i, part(title(turn, number, i, of), counted[from:until])) {
				return
			}
		}
	}
}

// title answers the bytes of a part's sector ahead of its sum.
func title(turn, number uint32, i, of int) []byte {
	b := octet.Put32(nil, turn)
	b = octet.Put32(b, number)
	b = octet.Put16(b, uint16(i))
	return octet.Put16(b, uint16(of))
}

// part answers a part's sector: the sum in the midst is that of what stands on both sides of it.
func part(title, b []byte) api.Block {
	var body [room]byte
	copy(body[:], b)
	check := sum.Sum32(slices.Concat(title, body[:]))
	return api.Block(slices.Concat(octet.Put32(title, check), body[:]))
}

// chain answers the bytes of the frames that stand in an area, from its first sector on.
func chain(area []api.Block, turn uint32) [][]byte {
	var frames [][]byte
	at := 0
next:
	for {
		b, there := claimed(area[at:])
		if !there {
			break
		}
		for i, p := range parts(turn, uint32(len(frames)), b) {
			if area[at+i] != p {
				break next
			}
		}
		frames = append(frames, b)
		at += Sectors(len(b))
	}
	return frames
}

// claimed answers the bytes of the frame that the sectors begin with, as their first one counts them, and whether there is room for such a frame. That the sectors are this frame's parts is not told yet.
func claimed(sectors []api.Block) ([]byte, bool) {
	if len(sectors) == 0 {
		return nil, false
	}
	n := octet.Read(sectors[0][ahead:]).U32()
	if n > api.MaxTx || Sectors(int(n)) > len(sectors) {
		return nil, false
	}
	var b []byte
	for _, s := range sectors[:Sectors(int(n))] {
		b = append(b, s[ahead:]...)
	}
	return b[size : size+int(n)], true
}

// strays answers, as sectors of the disk, which sectors of an area behind those that are used are not all noughts; from is where the area begins.
func strays(area []api.Block, used, from int) []int {
	var out []int
	for i, s := range area[used:] {
		if s != (api.Block{}) {
			out = append(out, from+used+i)
		}
	}
	return out
}
