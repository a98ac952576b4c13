package sdnv_test

import (
	"bytes"
	"math"
	"slices"
	"testing"

	"heliograph/sdnv"
)

// P8.1: the chapter's examples.
func TestPutExamples(t *testing.T) {
	for _, x := range []struct {
		b    []byte
		n    uint64
		want []byte
	}{
		{nil, 0, []byte{0x00}},
		{nil, 127, []byte{0x7f}},
		{nil, 128, []byte{0x81, 0x00}},
		{[]byte{0x07}, 300, []byte{0x07, 0x82, 0x2c}},
	} {
		if b := sdnv.Put(x.b, x.n); !bytes.Equal(b, x.want) {
			t.Errorf("Put(% x, %d): % x; want % x", x.b, x.n, b, x.want)
		}
	}
	if n := sdnv.Size(math.MaxUint64); n != 10 {
		t.Errorf("Size(2^64 - 1): %d; want 10", n)
	}
}

// P8.1: the bytes at each step of a length, behind nothing, nil or empty, and behind bytes, whatever they are.
func TestPutAtEachStep(t *testing.T) {
	for n, want := range known() {
		for what, ahead := range map[string][]byte{
			"nil": nil, "empty": {}, "one": {0x07}, "a nought": {0x00}, "a mark": {0x80}, "the begin of a number": {0x81, 0xff}, "many": row(1000, 0xff),
		} {
			if b := sdnv.Put(ahead, n); !bytes.Equal(b, slices.Concat(ahead, want)) {
				t.Errorf("Put(%s, %d): %s; want % x behind it", what, n, cut(b), want)
			}
		}
		if k := sdnv.Size(n); k != len(want) {
			t.Errorf("Size(%d): %d; want %d", n, k, len(want))
		}
	}
}

// P8.1: numbers of one to three bytes, all of them, those beside each power of two, and many of any length, against a second telling.
func TestPutAsTold(t *testing.T) {
	var l []uint64
	for n := range uint64(1 << 15) {
		l = append(l, n)
	}
	d := dice(3)
	for range 20000 {
		l = append(l, d.number())
	}
	for _, n := range append(l, steps()...) {
		want := plain(n)
		if b, k := sdnv.Put(nil, n), sdnv.Size(n); !bytes.Equal(b, want) || k != len(want) {
			t.Fatalf("%d: % x, %d bytes; want % x", n, b, k, want)
		}
	}
}

// P8.1: what is put behind what was put leaves that as it is.
func TestPutOneBehindTheOther(t *testing.T) {
	var b, want []byte
	for _, n := range steps() {
		b, want = sdnv.Put(b, n), append(want, plain(n)...)
		if !bytes.Equal(b, want) {
			t.Fatalf("with %d: %s; want %s", n, cut(b), cut(want))
		}
	}
}
