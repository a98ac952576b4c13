package cbor_test

import (
	"bytes"
	"fmt"
	"math"
	"slices"
	"strings"
	"testing"

	"heliograph/api"
)

// sizes are in how many bytes a head's number stands behind its first one.
var sizes = []int{1, 2, 4, 8}

// types are those of items.
var types = []int{0, 2, 3, 4}

// P7.3: the chapter's examples, and others by hand; whatever stands behind.
func TestDecodeOfKnownBytes(t *testing.T) {
	for _, q := range known() {
		b := unhex(t, q.b)
		for _, more := range [][]byte{nil, {7}, {0xff}, {0x81}, make([]byte, 9), b} {
			decodes(t, "known", slices.Concat(b, more), q.x, len(b))
		}
	}
	refuses(t, "an example", []byte{0x18, 0x17}, api.ErrItem)
	refuses(t, "an example", []byte{0xff}, api.ErrItem)
	refuses(t, "an example", []byte{0x82, 1}, api.ErrShort)
	refuses(t, "an example", nil, api.ErrShort)
	refuses(t, "no bytes", []byte{}, api.ErrShort)
	refuses(t, "no bytes, and room behind", make([]byte, 0, 9), api.ErrShort)
	refuses(t, "no bytes behind a list's head", []byte{0x81, 0, 0}[:1], api.ErrShort)
}

// P7.3: wrong bytes by hand: which error comes first, byte by byte.
func TestDecodeOfWrongBytes(t *testing.T) {
	for _, q := range []struct {
		b string
		e api.Errno
	}{
		// What is wrong, where the bytes end right behind it and where they do not.
		{"20", api.ErrItem}, {"20 00", api.ErrItem}, {"38", api.ErrItem}, {"a0", api.ErrItem}, {"c1 00", api.ErrItem}, {"f6", api.ErrItem},
		{"1c", api.ErrItem}, {"1f", api.ErrItem}, {"5f", api.ErrItem}, {"5f 41 00 ff", api.ErrItem}, {"7e", api.ErrItem}, {"9f", api.ErrItem}, {"9f ff", api.ErrItem},
		// A head that is cut off.
		{"18", api.ErrShort}, {"19", api.ErrShort}, {"19 01", api.ErrShort}, {"1a", api.ErrShort}, {"1a 00 01 00", api.ErrShort}, {"1b 00 00 00 01 00 00 00", api.ErrShort},
		{"58", api.ErrShort}, {"59 01", api.ErrShort}, {"59 02", api.ErrShort}, {"78", api.ErrShort}, {"79 02", api.ErrShort}, {"98", api.ErrShort},
		// A number in more bytes than it needs, and where that is sure.
		{"18 00", api.ErrItem}, {"18 17", api.ErrItem}, {"19 00 18", api.ErrItem}, {"19 00 ff", api.ErrItem}, {"1a 00 00 ff ff", api.ErrItem}, {"1b 00 00 00 00 ff ff ff ff", api.ErrItem},
		{"19 00", api.ErrItem}, {"1a 00", api.ErrShort}, {"1a 00 00", api.ErrItem}, {"1b 00 00 00", api.ErrShort}, {"1b 00 00 00 00", api.ErrItem},
		// A count in more bytes than it needs.
		{"58 00", api.ErrItem}, {"58 17", api.ErrItem}, {"78 17", api.ErrItem}, {"98 17", api.ErrItem}, {"59 00 ff", api.ErrItem}, {"79 00", api.ErrItem}, {"99 00 40", api.ErrItem},
		{"5a 00 00 01 00", api.ErrItem}, {"5b 00 00 00 00 00 00 01 00", api.ErrItem}, {"9a 00 00 00 01", api.ErrItem}, {"9b 00 00 00 00 00 00 00 01", api.ErrItem},
		// A count above the limit, and where that is sure.
		{"59 02 01", api.ErrItem}, {"79 02 01", api.ErrItem}, {"98 41", api.ErrItem}, {"98 ff", api.ErrItem}, {"59 03", api.ErrItem}, {"79 ff", api.ErrItem}, {"99 01", api.ErrItem}, {"99 01 00", api.ErrItem},
		{"5a 00 01 00 00", api.ErrItem}, {"5a 00 01", api.ErrItem}, {"5a 01", api.ErrItem}, {"9a ff", api.ErrItem}, {"9a ff ff ff ff", api.ErrItem},
		{"5b 80 00 00 00 00 00 00 00", api.ErrItem}, {"7b ff ff ff ff ff ff ff ff", api.ErrItem}, {"9b ff ff ff ff ff ff ff fe", api.ErrItem}, {"9b 80", api.ErrItem},
		{"5b 00 00 00 01 00 00 00 00", api.ErrItem}, {"5b 00 00 00 01 00 00 00 05", api.ErrItem}, {"9b 00 00 00 01 00 00 00 01 07", api.ErrItem}, {"7b 00 00 00 01", api.ErrItem},
		// Bytes and items that are missing.
		{"41", api.ErrShort}, {"42 01", api.ErrShort}, {"61", api.ErrShort}, {"81", api.ErrShort}, {"82 80", api.ErrShort}, {"82 81", api.ErrShort}, {"82 41 07", api.ErrShort}, {"82 42 07", api.ErrShort},
		// Within MaxDeep lists: at the first byte.
		{"81 81 81 81", api.ErrShort}, {"81 81 81 81 00", api.ErrItem}, {"81 81 81 81 80", api.ErrItem}, {"81 81 81 81 18", api.ErrItem}, {"81 81 81 81 42", api.ErrItem}, {"81 81 81 82 01 01", api.ErrItem},
		{"81 81 82 01 81", api.ErrShort}, {"81 81 82 01 81 05", api.ErrItem}, {"81 81 81 98", api.ErrShort}, {"81 81 81 98 18", api.ErrShort}, {"81 81 81 98 41", api.ErrItem},
		// A text that is no UTF-8: behind its last byte.
		{"61 ff", api.ErrItem}, {"62 ff", api.ErrShort}, {"62 ff 61", api.ErrItem}, {"62 61 c3", api.ErrItem}, {"63 c3 bc", api.ErrShort}, {"63 c3 bc c3", api.ErrItem}, {"82 61 ff", api.ErrItem}, {"82 62 ff", api.ErrShort},
		// The first one of several.
		{"82 18 17 ff", api.ErrItem}, {"82 00 ff", api.ErrItem}, {"83 00 ff", api.ErrItem}, {"83 61 ff", api.ErrItem}, {"82 42 ff", api.ErrShort}, {"98 18 ff", api.ErrItem}, {"82 ff", api.ErrItem},
	} {
		refuses(t, q.b, unhex(t, q.b), q.e)
	}
}

// P7.3: each first byte of a head, alone, and with noughts or other bytes behind it.
func TestDecodeOfEachFirstByte(t *testing.T) {
	for first := range 256 {
		kind, ending := first/32, first%32
		what := fmt.Sprintf("the first byte %02x", first)
		one := []byte{byte(first)}
		if !slices.Contains(types, kind) || ending >= 28 {
			for n := range 10 {
				refuses(t, what, append(one, bytes.Repeat([]byte{1}, n)...), api.ErrItem)
				refuses(t, what, append(one, make([]byte, n)...), api.ErrItem)
				refuses(t, what+" in a list", append([]byte{0x82, 1, byte(first)}, make([]byte, n)...), api.ErrItem)
			}
			continue
		}
		if first < 24 {
			decodes(t, what, one, number(uint64(first)), 1)
		} else if first == 0x40 || first == 0x60 || first == 0x80 {
			decodes(t, what, one, api.Item{Kind: kind}, 1)
		} else {
			refuses(t, what, one, api.ErrShort)
		}
		refuses(t, what+", deep", append([]byte{0x81, 0x81, 0x81, 0x81}, one...), api.ErrItem)
		asTold(t, what, append(one, make([]byte, 600)...))
		asTold(t, what, append(one, bytes.Repeat([]byte{1}, 600)...))
		asTold(t, what, append(one, bytes.Repeat([]byte{24}, 600)...))
	}
}

// P7.3: numbers at each step of a head, in each number of bytes that they have room in.
func TestDecodeOfNumbers(t *testing.T) {
	for _, n := range steps() {
		if n < 24 {
			decodes(t, "number", head(0, 0, n), number(n), 1)
		}
		for _, size := range sizes {
			if size < 8 && n>>(8*size) > 0 {
				continue
			}
			b := head(0, size, n)
			what := fmt.Sprint("the number ", n, " in ", size)
			if size == needs(n) {
				decodes(t, what, b, number(n), 1+size)
				decodes(t, what, append(b, 0xff), number(n), 1+size)
				for cut := range b {
					refuses(t, what, b[:cut], api.ErrShort)
				}
				continue
			}
			refuses(t, what, b, api.ErrItem)
			refuses(t, what, append(b, 0), api.ErrItem)
		}
	}
}

// P7.3: counts at each step of a head and around the limits, in each number of bytes that they have room in.
func TestDecodeOfCounts(t *testing.T) {
	counts := append(steps(), 63, 64, 65, 511, 512, 513, 767, 768, 1<<32+1, 1<<32+24, 1<<32+64, 1<<63+1, 1<<63+512)
	for _, kind := range types[1:] {
		most := []uint64{2: 512, 3: 512, 4: 64}[kind]
		for _, n := range counts {
			for _, size := range append([]int{0}, sizes...) {
				if size < 8 && n>>(8*size) > 0 && size > 0 || size == 0 && n >= 24 {
					continue
				}
				b := head(kind, size, n)
				what := fmt.Sprint("type ", kind, ", the count ", n, " in ", size)
				if size != needs(n) || n > most {
					refuses(t, what, b, api.ErrItem)
					refuses(t, what, append(b, make([]byte, 600)...), api.ErrItem)
					continue
				}
				x := api.Item{Kind: kind, Bytes: make([]byte, n)}
				if kind == 4 {
					x = list(slices.Repeat([]api.Item{number(0)}, int(n))...)
				}
				all := append(b, make([]byte, n)...)
				decodes(t, what, all, x, len(all))
				decodes(t, what, append(all, 0, 0), x, len(all))
				for cut := range all {
					refuses(t, what, all[:cut], api.ErrShort)
				}
			}
		}
	}
}

// P7.3: what is wrong is told with the byte that makes it sure, where the bytes end there, and not ahead of it.
func TestDecodeWhereItIsSure(t *testing.T) {
	for _, q := range []struct {
		b    string
		sure int
	}{
		{"18 17 00", 2}, {"19 00 ff", 2}, {"1a 00 00 ff ff", 3}, {"1b 00 00 00 00 ff ff ff ff", 5},
		{"59 00 ff", 2}, {"5a 00 00 01 00", 3}, {"5b 00 00 00 00 00 00 01 00", 5},
		{"99 00 40", 2}, {"9a 00 00 00 40", 3}, {"9b 00 00 00 00 00 00 00 40", 5},
		{"59 02 01", 3}, {"59 03 00", 2}, {"5a 00 01 00 00", 3}, {"5a 01 00 00 00", 2}, {"5b 00 00 00 01 00 00 00 00", 5}, {"7b 80 00 00 00 00 00 00 00", 2},
		{"98 41 00", 2}, {"99 01 00", 2}, {"9a 00 01 00 00", 3}, {"9b 00 ff ff ff ff ff ff ff", 3},
		{"83 01 18 05 00", 4}, {"82 41 ff ff 00", 4}, {"81 81 81 81 00 00", 5}, {"82 81 81 81 01 01", 5},
		{"62 ff ff 00", 3}, {"64 61 ff 61 61 00", 5}, {"82 63 ff ff ff 00", 5},
	} {
		b := unhex(t, q.b)
		for n := range len(b) + 1 {
			want := api.ErrShort
			if n >= q.sure {
				want = api.ErrItem
			}
			refuses(t, q.b, b[:n], want)
		}
	}
}

// P7.3: texts that are no UTF-8: behind their last byte, and not ahead of it.
func TestDecodeOfNoTexts(t *testing.T) {
	for _, s := range noTexts() {
		b := append(head(3, needs(uint64(len(s))), uint64(len(s))), s...)
		for n := range b {
			refuses(t, fmt.Sprintf("the text % x, cut off", s), b[:n], api.ErrShort)
			refuses(t, fmt.Sprintf("the text % x, cut off, in a list", s), append([]byte{0x81}, b[:n]...), api.ErrShort)
		}
		refuses(t, fmt.Sprintf("the text % x", s), b, api.ErrItem)
		refuses(t, fmt.Sprintf("the text % x, more behind", s), append(b, 0x80, 0x80, 0), api.ErrItem)
		refuses(t, fmt.Sprintf("the text % x in a list", s), append([]byte{0x82}, b...), api.ErrItem)
		same := append(head(2, needs(uint64(len(s))), uint64(len(s))), s...)
		decodes(t, fmt.Sprintf("the bytes % x", s), same, raw([]byte(s)...), len(same))
	}
	split := []byte{0x82, 0x61, 0xc3, 0x61, 0xbc}
	refuses(t, "a rune in two texts", split, api.ErrItem)
}

// P7.3: each depth, with each kind at the bottom, whose first byte is there and is missing.
func TestDecodeOfEachDepth(t *testing.T) {
	bottoms := []api.Item{number(5), number(300), raw(), raw(1, 2), text(""), text("abc"), list(), list(number(1))}
	for lists := range 9 {
		for _, x := range bottoms {
			b := append(bytes.Repeat([]byte{0x81}, lists), plain(x)...)
			what := fmt.Sprint(short(x), " within ", lists)
			levels := lists
			if len(x.Items) > 0 {
				levels++
			}
			if levels <= 3 {
				decodes(t, what, b, within(lists, x), len(b))
				continue
			}
			refuses(t, what, b, api.ErrItem)
			refuses(t, what+", cut off", b[:5], api.ErrItem)
			refuses(t, what+", the first byte missing", b[:4], api.ErrShort)
		}
	}
	wide := list(list(list(list(), number(1), list()), list()), list(list(list())), number(2))
	decodes(t, "deep, shallow, deep", plain(wide), wide, len(plain(wide)))
	for _, n := range []int{5, 6, 1000, 1 << 20} {
		refuses(t, "very deep", bytes.Repeat([]byte{0x81}, n), api.ErrItem)
	}
}

// P7.3: all rows of up to two bytes, and of up to five of those that count.
func TestDecodeOfAllShortRows(t *testing.T) {
	asTold(t, "none", nil)
	for a := range 256 {
		asTold(t, "one", []byte{byte(a)})
		for b := range 256 {
			asTold(t, "two", []byte{byte(a), byte(b)})
		}
	}
	some := []byte{0, 1, 0x17, 0x18, 0x19, 0x1a, 0x20, 0x40, 0x41, 0x42, 0x59, 0x60, 0x62, 0x78, 0x80, 0x81, 0x82, 0x99, 0xc3, 0xff}
	ends := map[api.Errno]int{}
	for i := range 160000 {
		row := []byte{some[i%20], some[i/20%20], some[i/400%20], some[i/8000]}
		ends[asTold(t, "four", row)]++
		ends[asTold(t, "five", append([]byte{0x81}, row...))]++
	}
	if ends[api.OK] < 1000 || ends[api.ErrShort] < 1000 || ends[api.ErrItem] < 1000 {
		t.Errorf("too few of one error: %v", ends)
	}
}

// P7.3: bytes of items that are spoilt, cut off and made longer.
func TestDecodeOfSpoiltBytes(t *testing.T) {
	d := dice(1)
	ends := map[api.Errno]int{}
	for range 20000 {
		b := plain(d.item(4 + d.below(3)))
		for range d.below(4) {
			at := d.below(min(len(b), 40))
			b[at] = byte(d.below(256))
			if d.below(3) == 0 {
				b = slices.Insert(b, at, byte(d.below(256)))
			}
		}
		b = b[:len(b)-d.below(len(b))*d.below(2)]
		ends[asTold(t, "spoilt", b)]++
	}
	if ends[api.OK] < 500 || ends[api.ErrShort] < 500 || ends[api.ErrItem] < 500 {
		t.Errorf("too few of one error: %v", ends)
	}
}

// P7.3: a count that wraps round to a small one in fewer bits is not taken for it.
func TestDecodeOfCountsThatWrapRound(t *testing.T) {
	for _, kind := range types[1:] {
		for _, n := range []uint64{1 << 8, 1 << 16, 1 << 32, 1<<32 + 2, 1 << 63, 1<<63 + 2, math.MaxUint64, math.MaxUint64 - 1, 1<<64 - 1<<32 + 2} {
			b := append(head(kind, needs(n), n), strings.Repeat("\x01", 700)...)
			if kind != 4 && n == 1<<8 {
				decodes(t, "256", b, api.Item{Kind: kind, Bytes: bytes.Repeat([]byte{1}, 256)}, 259)
				continue
			}
			refuses(t, fmt.Sprint("type ", kind, ", the count ", n), b, api.ErrItem)
		}
	}
}
