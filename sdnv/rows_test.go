package sdnv_test

import (
	"bytes"
	"math"
	"slices"
	"testing"

	"heliograph/api"
	"heliograph/sdnv"
)

// rowOf are the bytes of numbers, told once more.
func rowOf(l ...uint64) []byte {
	var b []byte
	for _, n := range l {
		b = append(b, plain(n)...)
	}
	return b
}

// P8.3: the chapter's examples.
func TestRowsExamples(t *testing.T) {
	getsRow(t, "three", []byte{0x00, 0x7f, 0x81, 0x00, 0x09}, 3, []uint64{0, 127, 128}, 4)
	refusesRow(t, "too few", []byte{0x00}, 2, api.ErrShort)
}

// P8.3: Row of none, of one, of the known, of the same, of many.
func TestRow(t *testing.T) {
	if b := sdnv.Row([]uint64{0, 127, 128}); !bytes.Equal(b, []byte{0x00, 0x7f, 0x81, 0x00}) {
		t.Errorf("Row(0 127 128): % x", b)
	}
	if b, c := sdnv.Row(nil), sdnv.Row([]uint64{}); len(b) != 0 || len(c) != 0 {
		t.Errorf("Row of none: % x, % x", b, c)
	}
	for n, want := range known() {
		if b := sdnv.Row([]uint64{n}); !bytes.Equal(b, want) {
			t.Errorf("Row(%d): % x; want % x", n, b, want)
		}
		if b := sdnv.Row([]uint64{n, n, 0, n}); !bytes.Equal(b, slices.Concat(want, want, []byte{0}, want)) {
			t.Errorf("Row(%d %d 0 %d): % x", n, n, n, b)
		}
	}
	d := dice(7)
	for range 200 {
		var l []uint64
		for range d.below(300) {
			l = append(l, d.number())
		}
		if b := sdnv.Row(l); !bytes.Equal(b, rowOf(l...)) {
			t.Fatalf("Row of %d numbers: %s; want %s", len(l), cut(b), cut(rowOf(l...)))
		}
	}
}

// P8.3: Row has no bound of its own; more than 65536 numbers are put as well.
func TestRowOfVeryMany(t *testing.T) {
	l := slices.Repeat([]uint64{128, 3}, 40000)
	if b := sdnv.Row(l); !bytes.Equal(b, bytes.Repeat([]byte{0x81, 0x00, 0x03}, 40000)) {
		t.Errorf("Row of 80000 numbers: %s", cut(b))
	}
}

// P8.3: how many numbers there may be, ahead of what the bytes are.
func TestRowsCount(t *testing.T) {
	for _, b := range [][]byte{nil, {}, {0x00}, {0x80}, {0x81}, row(20, 0xff), make([]byte, 70000)} {
		for _, n := range []int{-1, -2, -65536, math.MinInt, 65537, 65538, 1 << 31, 1 << 32, 1<<32 + 1, math.MaxInt} {
			refusesRow(t, "a count that may not be", b, n, api.ErrArg)
		}
		getsRow(t, "none", b, 0, nil, 0)
	}
	many := make([]byte, 65540)
	many[65535] = 9
	want := make([]uint64, 65536)
	want[65535] = 9
	getsRow(t, "65536", many, 65536, want, 65536)
	getsRow(t, "65536, none behind", many[:65536], 65536, want, 65536)
	getsRow(t, "65535", many, 65535, want[:65535], 65535)
	refusesRow(t, "65536, one too few", many[:65535], 65536, api.ErrShort)
	refusesRow(t, "65536, of no bytes", nil, 65536, api.ErrShort)
	refusesRow(t, "1, of no bytes", nil, 1, api.ErrShort)
	greatest := slices.Repeat([]uint64{math.MaxUint64}, 65536)
	getsRow(t, "65536 of ten bytes", append(rowOf(greatest...), 1), 65536, greatest, 655360)
}

// P8.3: one number is what Get tells, whatever it is.
func TestRowsOfOne(t *testing.T) {
	for n, b := range known() {
		getsRow(t, "alone", b, 1, []uint64{n}, len(b))
		getsRow(t, "with bytes behind", slices.Concat(b, []byte{0x80}), 1, []uint64{n}, len(b))
	}
	for _, b := range [][]byte{{0x80, 0x01}, {0x81}, row(9, 0x80, 0x82), row(9, 0xff, 0x81), row(10, 0xff, 0x81)} {
		_, _, e := told(b)
		refusesRow(t, "one", b, 1, e)
	}
}

// P8.3: an error in the first, a middle and the last number is the one that is answered; one that is behind the last number is none.
func TestRowsErrors(t *testing.T) {
	good := []uint64{5, 300, 0, math.MaxUint64, 128}
	for _, bad := range [][]byte{{0x80}, {0x80, 0x01}, row(9, 0x80, 0x82), append(row(8, 0xff, 0xff), 0x7f), append(row(9, 0xff, 0x81), 0x00), {0x81}, row(8, 0xff), nil} {
		_, _, want := told(bad)
		if want == api.ErrShort {
			// behind such a one nothing can stand
			for k := range len(good) + 1 {
				b := append(rowOf(good[:k]...), bad...)
				getsRow(t, "ahead of the error", b, k, good[:k], len(rowOf(good[:k]...)))
				for n := k + 1; n < 8; n++ {
					refusesRow(t, "cut off", b, n, want)
				}
			}
			continue
		}
		for k := range len(good) + 1 {
			b := slices.Concat(rowOf(good[:k]...), bad, rowOf(good[k:]...))
			getsRow(t, "ahead of the error", b, k, good[:k], len(rowOf(good[:k]...)))
			for n := k + 1; n < 8; n++ {
				refusesRow(t, "an error within", b, n, want)
			}
		}
	}
}

// P8.3: of several errors the first one's is answered.
func TestRowsFirstError(t *testing.T) {
	long := append(row(8, 0x80, 0x82), 0x00)
	refusesRow(t, "ErrSdnv, then ErrLong", slices.Concat([]byte{1, 0x80, 0x01}, long), 4, api.ErrSdnv)
	refusesRow(t, "ErrLong, then ErrSdnv", slices.Concat([]byte{1}, long, []byte{0x80}), 4, api.ErrLong)
	refusesRow(t, "ErrLong, then ErrShort", slices.Concat([]byte{1}, long, []byte{0x81}), 4, api.ErrLong)
	refusesRow(t, "ErrSdnv, then ErrShort", []byte{1, 0x80, 0x81}, 4, api.ErrSdnv)
	refusesRow(t, "too few, and an error within", []byte{1, 0x80, 0x00}, 65536, api.ErrSdnv)
}

// P8.3: rows that were put, cut off at each place and spoilt at any, against one Get behind the other.
func TestRowsAsTold(t *testing.T) {
	d := dice(9)
	for range 3000 {
		var l []uint64
		for range d.below(6) {
			l = append(l, d.number())
		}
		b := rowOf(l...)
		getsRow(t, "put", b, len(l), l, len(b))
		if len(b) > 0 && d.below(2) == 0 {
			b[d.below(len(b))] ^= byte(1 + d.below(255))
		}
		b = b[:d.below(len(b)+1)]
		toldRow(t, b, d.below(8))
	}
}

// toldRow holds Rows against one told number behind the other.
func toldRow(t *testing.T, b []byte, n int) {
	t.Helper()
	var want []uint64
	at := 0
	for range n {
		x, size, e := told(b[at:])
		if e != api.OK {
			refusesRow(t, "as told", b, n, e)
			return
		}
		want, at = append(want, x), at+size
	}
	getsRow(t, "as told", b, n, want, at)
}
