package segment_test

import (
	"fmt"
	"math"
	"slices"
	"testing"

	"heliograph/api"
)

// P10.3: the bytes of segments that may be.
func TestDecodeOfRightBytes(t *testing.T) {
	for _, s := range right() {
		decodes(t, "right", plain(s), s)
	}
}

// P10.3: the chapter's examples.
func TestDecodeExamples(t *testing.T) {
	b := plain(ack())
	refuses(t, "six bytes", b[:6], api.ErrShort)
	b[len(b)-1]++
	refuses(t, "the last byte changed", b, api.ErrSum)
}

// P10.3: fewer than 7 bytes are ErrShort, whatever they are, a right checksum or a wrong one.
func TestDecodeOfFewBytes(t *testing.T) {
	refuses(t, "nil", nil, api.ErrShort)
	for n := range 7 {
		refuses(t, "noughts", make([]byte, n), api.ErrShort)
		refuses(t, "any bytes", fill(5, n), api.ErrShort)
		for _, s := range kinds() {
			refuses(t, "a beginning", plain(s)[:n], api.ErrShort)
		}
		if n >= 4 {
			refuses(t, "with a right checksum", sealed([]byte{5, 1}[:n-4]), api.ErrShort)
		}
	}
	for n := 7; n < 200; n++ {
		refuses(t, "noughts enough", append([]byte{5}, make([]byte, n-1)...), api.ErrSum)
	}
	decodes(t, "seven bytes", sealed([]byte{5, 1, 1}), api.Segment{Kind: 5, Source: 1, Session: 1})
}

// P10.3: a wrong checksum is ErrSum, over what is a segment's bytes, and over what is not.
func TestDecodeOfWrongSums(t *testing.T) {
	bodies := [][]byte{{0, 0, 0}, {9, 1, 1}, {5, 1, 1, 1}, {5, 0, 1}, {5, 7, 1}, {1, 1, 1, 2, 0, 1, 1, 9}, {3, 1, 1, 0x80, 1}, {3, 1, 1, 0x81}, fill(3, 200)}
	for _, s := range append(kinds(), greatestData(), greatestReport()) {
		bodies = append(bodies, bare(s))
	}
	for _, body := range bodies {
		b := sealed(body)
		for i := range 4 {
			for _, by := range []byte{1, 2, 0x80, 0xff} {
				c := slices.Clone(b)
				c[len(c)-4+i] ^= by
				refuses(t, "a byte of the sum changed", c, api.ErrSum)
			}
		}
		lowest := slices.Clone(b)
		slices.Reverse(lowest[len(lowest)-4:])
		refuses(t, "the lowest byte first", lowest, api.ErrSum)
		refuses(t, "another sum", slices.Concat(body, []byte{0, 0, 0, 0}), api.ErrSum)
		ahead := slices.Concat(b[len(b)-4:], body)
		refuses(t, "the sum ahead", ahead, api.ErrSum)
		refuses(t, "a byte behind", append(slices.Clone(b), 0), api.ErrSum)
	}
	for _, s := range right() {
		b := plain(s)
		if len(b) > 7 {
			refuses(t, "a byte less", b[:len(b)-1], api.ErrSum)
			refuses(t, "without the first byte", b[1:], api.ErrSum)
		}
	}
}

// P10.3: with a right checksum, a Kind that is none, whatever stands behind.
func TestDecodeOfOtherKinds(t *testing.T) {
	// The Reasons of cancel and stop would do as a Serial; the Serial of ack is too great for a Reason.
	shape := func(kind int) int { return []int{0, 1, 2, 3, 4, 5, 4, 5}[kind] }
	for kind := range 256 {
		for _, s := range kinds() {
			b := bare(s)
			b[0] = byte(kind)
			e := asTold(t, fmt.Sprint("Kind ", kind, " with the fields of ", s.Kind), sealed(b))
			fits := kind < 8 && shape(kind) == shape(s.Kind) || kind == 3 && shape(s.Kind) == 4
			if e == api.OK != fits {
				t.Errorf("Kind %d with the fields of %d: error %d", kind, s.Kind, e)
			}
		}
	}
}

// P10.3: numbers that are cut off, and bytes behind the end.
func TestDecodeOfBeginnings(t *testing.T) {
	for _, s := range append(kinds(), greatestData(), greatestReport(), highReport()) {
		b := bare(s)
		for n := 3; n < len(b); n++ {
			refuses(t, "a beginning", sealed(b[:n]), api.ErrSegment)
		}
		for x := range 256 {
			refuses(t, "a byte behind", sealed(append(slices.Clone(b), byte(x))), api.ErrSegment)
		}
		refuses(t, "twice", sealed(slices.Concat(b, b)), api.ErrSegment)
		refuses(t, "sealed twice", sealed(sealed(b)), api.ErrSegment)
		refuses(t, "many bytes behind", sealed(slices.Concat(b, fill(1, 500))), api.ErrSegment)
		refuses(t, "ahead a nought", sealed(slices.Concat([]byte{0}, b)), api.ErrSegment)
	}
	for _, tail := range [][]byte{{0x81}, {0xff}, {0x80}, {0x81, 0x80}, {0xff, 0xff, 0xff, 0xff, 0xff, 0xff, 0xff, 0xff, 0xff, 0xff, 0xff, 0xff}} {
		refuses(t, "a Source without an end", sealed(slices.Concat([]byte{5, 1}, tail)), api.ErrSegment)
		refuses(t, "a Session without an end", sealed(slices.Concat([]byte{5, 1, 1}, tail)), api.ErrSegment)
		refuses(t, "a Serial without an end", sealed(slices.Concat([]byte{3, 1, 1}, tail)), api.ErrSegment)
	}
}

// withNumber are the bytes of a segment with the number at a place in other bytes.
func withNumber(s api.Segment, place int, other []byte) []byte {
	b := []byte{byte(s.Kind)}
	for i, n := range numbersOf(s) {
		if i == place {
			b = append(b, other...)
		} else {
			b = append(b, number(n)...)
		}
	}
	return sealed(append(b, s.Data...))
}

// P10.3: numbers in more bytes than they need.
func TestDecodeOfLongNumbers(t *testing.T) {
	for _, s := range kinds() {
		for i, n := range numbersOf(s) {
			decodes(t, "a number as it is", withNumber(s, i, number(n)), s)
			for k := 1; k < 12; k++ {
				long := append(slices.Repeat([]byte{0x80}, k), number(n)...)
				refuses(t, fmt.Sprint("the number ", i, " with ", k, " noughts ahead"), withNumber(s, i, long), api.ErrSegment)
			}
			if b := withNumber(s, i, nil); len(b) >= 7 {
				refuses(t, "a number of no byte", b, api.ErrSegment)
			}
		}
	}
}

// P10.3: numbers that are too great, or would be right, if a part of their bits were lost.
func TestDecodeOfNumbers(t *testing.T) {
	var each []uint64
	for _, n := range []uint64{0, 1, 2, 3, 5, 6, 7, 8, 20, 21, 40, 41, 99, 100, 101, 127, 128, 200, 255, 256, 257, 300, 399, 400, 401, 511, 512, 513, 16384, 70000} {
		each = append(each, n, 1<<32-n, 1<<32+n, 1<<63-n, 1<<63+n, 1<<63+1<<32+n, -n)
	}
	taken, asked := 0, 0
	for _, s := range append(kinds(), greatestReport()) {
		l := numbersOf(s)
		for i := range l {
			for _, n := range append(each, l[i], l[i]+1<<32, l[i]+1<<63, l[i]+1<<8, l[i]+1<<16) {
				asked++
				if asTold(t, fmt.Sprint("Kind ", s.Kind, ", the number ", n, " in the place ", i), withNumber(s, i, number(n))) == api.OK {
					taken++
				}
			}
			for _, k := range []int{10, 11, 40} {
				great := append(slices.Repeat([]byte{0xff}, k), 0x7f)
				refuses(t, "a number above 2^64", withNumber(s, i, great), api.ErrSegment)
				great = slices.Concat([]byte{0x82}, slices.Repeat([]byte{0x80}, k-2), number(l[i]))
				refuses(t, "a number of a far bit", withNumber(s, i, great), api.ErrSegment)
			}
		}
	}
	if taken < 300 || asked-taken < 5000 {
		t.Errorf("%d of %d numbers were taken", taken, asked)
	}
}

// P10.3: a Check that is neither 0 nor 1, with a Serial behind it and without.
func TestDecodeOfOtherChecks(t *testing.T) {
	for _, check := range []uint64{0, 1, 2, 3, 127, 128, 129, 256, 257, 1 << 32, 1<<32 + 1, 1 << 63, 1<<63 + 1, math.MaxUint64} {
		with := slices.Concat([]byte{1}, numbers(1, 1, check, 5, 0, 2, 2), []byte{7, 8})
		without := slices.Concat([]byte{1}, numbers(1, 1, check, 0, 2, 2), []byte{7, 8})
		zero := slices.Concat([]byte{1}, numbers(1, 1, check, 0, 0, 2, 2), []byte{7, 8})
		if e := asTold(t, "with a Serial", sealed(with)); e == api.OK != (check == 1) {
			t.Errorf("Check %d with a Serial: error %d", check, e)
		}
		if e := asTold(t, "without a Serial", sealed(without)); e == api.OK != (check == 0) {
			t.Errorf("Check %d without a Serial: error %d", check, e)
		}
		if e := asTold(t, "with the Serial 0", sealed(zero)); e != api.ErrSegment {
			t.Errorf("Check %d with the Serial 0: error %d", check, e)
		}
	}
}

// P10.3: right numbers that say what may not be.
func TestDecodeOfWrongFields(t *testing.T) {
	for what, b := range map[string][]byte{
		"Source 0":                    {5, 0, 1},
		"Source 7":                    {5, 7, 1},
		"Session 0":                   {5, 1, 0},
		"Total 0":                     {1, 1, 1, 0, 0, 0, 1, 9},
		"Total 513":                   {1, 1, 1, 0, 0, 0x84, 1, 1, 9},
		"no Data":                     {1, 1, 1, 0, 0, 1, 0},
		"no Data of none":             {1, 1, 1, 0, 0, 0, 0},
		"more Data than Total":        {1, 1, 1, 0, 0, 1, 2, 9, 9},
		"Data behind Total":           {1, 1, 1, 0, 1, 2, 2, 9, 9},
		"more Data than told":         {1, 1, 1, 0, 0, 5, 2, 9, 9, 9},
		"less Data than told":         {1, 1, 1, 0, 0, 5, 2, 9},
		"far less Data than told":     {1, 1, 1, 0, 0, 5, 0x8F, 0xFF, 0xFF, 0xFF, 0xFF, 0xFF, 0xFF, 0x7F, 9},
		"101 bytes of Data":           slices.Concat([]byte{1, 1, 1, 0, 0, 0x84, 0, 101}, fill(1, 101)),
		"an answer with the Serial 0": {3, 1, 1, 0},
		"Reason 256":                  {4, 1, 1, 0x82, 0},
		"Reason 256 of a stop":        {6, 1, 1, 0x82, 0},
		"Reason of an answer":         {5, 1, 1, 0},
		"Reason of another one":       {7, 1, 1, 0},
		"Serial 0":                    {2, 1, 1, 0, 1, 0, 1, 0},
		"Checks 0":                    {2, 1, 1, 1, 0, 0, 1, 0},
		"Lower at Upper":              {2, 1, 1, 1, 1, 1, 1, 0},
		"Lower above Upper":           {2, 1, 1, 1, 1, 2, 1, 0},
		"Upper 513":                   {2, 1, 1, 1, 1, 0, 0x84, 1, 0},
		"a claim of N 0":              {2, 1, 1, 1, 1, 0, 9, 1, 3, 0},
		"a claim ahead of Lower":      {2, 1, 1, 1, 1, 4, 9, 1, 3, 2},
		"a claim behind Upper":        {2, 1, 1, 1, 1, 0, 9, 1, 3, 7},
		"claims that touch":           {2, 1, 1, 1, 1, 0, 9, 2, 3, 2, 5, 1},
		"claims that fall":            {2, 1, 1, 1, 1, 0, 9, 2, 5, 1, 3, 1},
		"more claims than told":       {2, 1, 1, 1, 1, 0, 9, 1, 3, 1, 5, 1},
		"fewer claims than told":      {2, 1, 1, 1, 1, 0, 9, 3, 3, 1, 5, 1},
		"half a claim":                {2, 1, 1, 1, 1, 0, 9, 2, 3, 1, 5},
		"far fewer claims than told":  {2, 1, 1, 1, 1, 0, 9, 0x81, 0xFF, 0xFF, 0xFF, 0xFF, 0xFF, 0xFF, 0xFF, 0xFF, 0x7F, 3, 1},
	} {
		refuses(t, what, sealed(b), api.ErrSegment)
	}
	var many []byte
	for n := range 40 {
		row := slices.Concat([]byte{2, 1, 1, 1, 1, 0, 100, byte(n)}, many)
		if e := asTold(t, fmt.Sprint(n, " claims"), sealed(row)); e == api.OK != (n <= 20) {
			t.Errorf("%d claims: error %d", n, e)
		}
		many = append(many, byte(2*n), 1)
	}
}

// P10.3: edges, just within.
func TestDecodeAtTheEdges(t *testing.T) {
	variants(func(what string, s api.Segment) {
		if may(s) {
			decodes(t, what, plain(s), s)
		} else if len(s.Claims) < 100 {
			asTold(t, what, plain(s))
		}
	})
}

// P10.3, R1: rows of bytes of all kinds end, and are told as they are told once more.
func TestDecodeOfAnyBytes(t *testing.T) {
	d := dice(23)
	seen := map[api.Errno]int{}
	spoil := func(b []byte) []byte {
		for range 1 + d.below(3) {
			at := d.below(len(b))
			switch d.below(4) {
			case 0:
				b[at] ^= 1 << d.below(8)
			case 1:
				b = slices.Delete(b, at, at+1)
			case 2:
				b = slices.Insert(b, at, byte(d.below(256)))
			case 3:
				b[min(at, d.below(12))] = byte(d.below(256) >> d.below(8))
			}
			if len(b) == 0 {
				return b
			}
		}
		return b
	}
	for range 10000 {
		seen[asTold(t, "spoilt", spoil(plain(d.segment())))]++
		seen[asTold(t, "spoilt and sealed", sealed(spoil(bare(d.segment()))))]++
		row := make([]byte, d.below(30))
		for i := range row {
			row[i] = byte(d.below(256) >> d.below(8))
		}
		seen[asTold(t, "any bytes, sealed", sealed(row))]++
	}
	if seen[api.OK] < 500 || seen[api.ErrSum] < 5000 || seen[api.ErrSegment] < 5000 || seen[api.ErrShort] < 500 {
		t.Errorf("told: %v", seen)
	}
}

// P10.3: all short rows, sealed.
func TestDecodeOfAllShortRows(t *testing.T) {
	taken := 0
	for kind := range 9 {
		for x := range 1 << 16 {
			if asTold(t, "three bytes", sealed([]byte{byte(kind), byte(x), byte(x >> 8)})) == api.OK {
				taken++
			}
		}
	}
	if taken != 2*6*127 {
		t.Errorf("%d rows of three bytes are segments", taken)
	}
}
