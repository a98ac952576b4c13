package bundle_test

import (
	"bytes"
	"testing"

	"heliograph/api"
	"heliograph/bundle"
)

// encodes asks for bytes, and that Size tells how many they are.
func encodes(t *testing.T, what string, b api.Bundle, want []byte) {
	t.Helper()
	got, e := bundle.Encode(b)
	if e != api.OK || !bytes.Equal(got, want) {
		t.Errorf("%s: Encode: %s, error %d; want %s", what, cut(got), e, cut(want))
	}
	if n := bundle.Size(b); n != len(want) {
		t.Errorf("%s: Size: %d, want %d", what, n, len(want))
	}
}

// P9.2: bytes that were written by hand, with sums that others tell.
func TestEncodeOfKnownBundles(t *testing.T) {
	encodes(t, "the example", example(), []byte{
		0x83, 0x4D, 0x8A, 7, 2, 1, 1, 0, 0x0A, 0, 2, 1, 4, 0xCE, 0x6D,
		0, 0x46, 5, 6, 0x91, 0x69, 0xE8, 0x8A})
	encodes(t, "the least", least(), []byte{
		0x83, 0x4D, 0x8A, 7, 1, 1, 1, 0, 1, 0, 1, 0, 1, 0x34, 0x5D,
		0, 0x45, 0, 0x51, 0x53, 0x7D, 0x52})
	long := unlike()
	long.Payload = long.Payload[:1]
	long.Payload[0] = 0xFF
	encodes(t, "a piece of long numbers", long, []byte{
		0x83, 0x58, 0x18, 0x8A, 7, 3, 5, 0x1A, 0, 1, 0x11, 0x70, 0x19, 3, 0xE8, 0x19, 1, 0x2C, 0x18, 0x1E, 0x19, 1, 0x86, 2, 0x10, 0x9A, 0xC5,
		9, 0x45, 0xFF, 0x00, 0x00, 0x00, 0xFF})
}

// P9.2: the chapter's example: the first byte, the second one, how many.
func TestEncodeExample(t *testing.T) {
	x, e := bundle.Encode(example())
	if e != api.OK || len(x) != 23 || x[0] != 0x83 || x[1] != 0x4D || bundle.Size(example()) != 23 {
		t.Errorf("Encode: % x, error %d, Size %d", x, e, bundle.Size(example()))
	}
}

// P9.2: the bytes of bundles that may be, as the chapter's words say them.
func TestEncodeOfRightBundles(t *testing.T) {
	for _, b := range right() {
		encodes(t, "right", b, plain(b))
	}
}

// P9.2: payloads of each length, whole and as pieces at both ends.
func TestEncodeOfEachLength(t *testing.T) {
	all := fill(7, 400)
	for n := 1; n <= 400; n++ {
		for _, r := range [][2]int{{0, n}, {0, 400}, {400 - n, 400}} {
			b := unlike()
			b.Offset, b.Total, b.Payload = r[0], r[1], all[:n]
			encodes(t, "a payload", b, plain(b))
		}
	}
}

// P9.2, R2: what may not be has no bytes.
func TestEncodeOfWrongBundles(t *testing.T) {
	each(func(what string, b api.Bundle, may bool) {
		if may {
			encodes(t, what, b, plain(b))
			return
		}
		x, e := bundle.Encode(b)
		if e != api.ErrBundle || len(x) != 0 {
			t.Errorf("%s: Encode: %s, error %d; want nothing, ErrBundle", what, cut(x), e)
		}
		if n := bundle.Size(b); n != 0 {
			t.Errorf("%s: Size: %d, want 0", what, n)
		}
	})
}
