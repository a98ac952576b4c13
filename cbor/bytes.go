package cbor

import (
	"math"
	"unicode/utf8"

	"heliograph/api"
	"heliograph/octet"
)

// The types of heads.
const (
	typeNumber = 0
	typeBytes  = 2
	typeText   = 3
	typeList   = 4
)

// A head's first byte is its type and, in the five bits below, an ending: the number itself, or in how many bytes it stands behind.
const (
	endingBits = 5
	inOne      = 24 // one byte; two, four, eight with the next endings
	inEight    = 27
)

// Encode answers the bytes of the item (P7.2).
func Encode(x api.Item) ([]byte, api.Errno) {
	if e := Check(x); e != api.OK {
		return nil, e
	}
	return put(nil, x), api.OK
}

// put lays the bytes of an item that may be behind b.
func put(b []byte, x api.Item) []byte {
	switch x.Kind {
	case api.ItemNumber:
		b = putHead(b, typeNumber, x.Num)
	case api.ItemBytes:
		b = putHead(b, typeBytes, uint64(len(x.Bytes)))
		b = append(b, x.Bytes...)
	case api.ItemText:
		b = putHead(b, typeText, uint64(len(x.Bytes)))
		b = append(b, x.Bytes...)
	case api.ItemList:
		b = putHead(b, typeList, uint64(len(x.Items)))
		for _, y := range x.Items {
			b = put(b, y)
		}
	}
	return b
}

func putHead(b []byte, headType byte, n uint64) []byte {
	if n < inOne {
		return append(b, headType<<endingBits|byte(n))
	}
	ending, size := byte(inOne), 1
	for n>>(8*size) > 0 {
		ending++
		size *= 2
	}
	b = append(b, headType<<endingBits|ending)
	for behind := 8 * (size - 1); behind >= 0; behind -= 8 {
		b = append(b, byte(n>>behind))
	}
	return b
}

// Decode answers the item whose bytes b begins with, and how many these are (P7.3).
func Decode(b []byte) (api.Item, int, api.Errno) {
	r := octet.Read(b)
	x, ok := read(r, 0)
	if ok {
		return x, len(b) - r.Left(), api.OK
	}
	// Nothing is read behind what is wrong: the Reader has an error only if the bytes ended ahead of that.
	if e := r.Err(); e != api.OK {
		return api.Item{}, 0, e
	}
	return api.Item{}, 0, api.ErrItem
}

// read reads an item that lies within so many lists. False: the bytes have ended, as the Reader's error says then, or what was read last is wrong.
func read(r *octet.Reader, within int) (api.Item, bool) {
	var x, y api.Item
	var n uint64
	var ok bool
	first := r.U8()
	if r.Err() != api.OK || within == api.MaxDeep {
		goto wrong
	}
	if x.Kind, ok = kindOf(first >> endingBits); !ok {
		goto wrong
	}
	if n, ok = readNumber(r, first&(1<<endingBits-1), limit(x.Kind)); !ok {
		goto wrong
	}
	switch x.Kind {
	case api.ItemNumber:
		x.Num = n
	case api.ItemBytes, api.ItemText:
		x.Bytes = r.Raw(int(n))
		if r.Err() != api.OK || x.Kind == api.ItemText && !utf8.Valid(x.Bytes) {
			goto wrong
		}
	case api.ItemList:
		for range n {
			if y, ok = read(r, within+1); !ok {
				goto wrong
			}
			x.Items = append(x.Items, y)
		}
	}
	return x, true
wrong:
	return api.Item{}, false
}

func kindOf(headType byte) (int, bool) {
	switch headType {
	case typeNumber:
		return api.ItemNumber, true
	case typeBytes:
		return api.ItemBytes, true
	case typeText:
		return api.ItemText, true
	case typeList:
		return api.ItemList, true
	}
	return 0, false
}

// limit answers the greatest number that a head of the kind may have.
func limit(kind int) uint64 {
	switch kind {
	case api.ItemBytes, api.ItemText:
		return api.MaxBlock
	case api.ItemList:
		return api.MaxItems
	}
	return math.MaxUint64
}

// readNumber reads what stands behind a head's first byte, and answers the head's number. False: the bytes have ended, or with the byte that was read last it is sure that the number has room in fewer bytes, or is above the greatest.
func readNumber(r *octet.Reader, ending byte, greatest uint64) (uint64, bool) {
	if ending < inOne {
		return uint64(ending), true
	}
	if ending > inEight {
		return 0, false
	}
	size := 1 << (ending - inOne)
	var n uint64
	for behind := 8 * (size - 1); behind >= 0; behind -= 8 {
		n |= uint64(r.U8()) << behind
		// The bytes that are still to come can make of it no less than n, and no more than this.
		most := n | (1<<behind - 1)
		if r.Err() != api.OK || most < leastIn(size) || n > greatest {
			return 0, false
		}
	}
	return n, true
}

// leastIn answers the least number that does not have room in fewer bytes behind a head's first one.
func leastIn(size int) uint64 {
	if size == 1 {
		return inOne
	}
	return 1 << (4 * size)
}
