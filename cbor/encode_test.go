package cbor_test

import (
	"bytes"
	"encoding/hex"
	"slices"
	"strings"
	"testing"

	"heliograph/api"
	"heliograph/cbor"
)

func unhex(t *testing.T, s string) []byte {
	t.Helper()
	b, err := hex.DecodeString(strings.ReplaceAll(s, " ", ""))
	if err != nil {
		t.Fatal(err)
	}
	return b
}

// known are items and their bytes, by hand.
func known() []struct {
	x api.Item
	b string
} {
	return []struct {
		x api.Item
		b string
	}{
		{number(23), "17"},
		{number(24), "18 18"},
		{number(65536), "1a 00 01 00 00"},
		{raw(1, 2), "42 01 02"},
		{text("a"), "61 61"},
		{list(number(1), raw()), "82 01 40"},

		{number(0), "00"},
		{number(1), "01"},
		{number(255), "18 ff"},
		{number(256), "19 01 00"},
		{number(258), "19 01 02"},
		{number(65535), "19 ff ff"},
		{number(0xa1b2c3d4), "1a a1 b2 c3 d4"},
		{number(4294967295), "1a ff ff ff ff"},
		{number(4294967296), "1b 00 00 00 01 00 00 00 00"},
		{number(0x0102030405060708), "1b 01 02 03 04 05 06 07 08"},
		{number(18446744073709551615), "1b ff ff ff ff ff ff ff ff"},

		{raw(), "40"},
		{raw(0xff), "41 ff"},
		{raw(make([]byte, 23)...), "57" + strings.Repeat("00", 23)},
		{raw(make([]byte, 24)...), "58 18" + strings.Repeat("00", 24)},
		{raw(make([]byte, 255)...), "58 ff" + strings.Repeat("00", 255)},
		{raw(make([]byte, 256)...), "59 01 00" + strings.Repeat("00", 256)},
		{raw(make([]byte, 512)...), "59 02 00" + strings.Repeat("00", 512)},

		{text(""), "60"},
		{text("\u00fc"), "62 c3 bc"},
		{text("\u6c34"), "63 e6 b0 b4"},
		{text("\U00010151"), "64 f0 90 85 91"},
		{text(strings.Repeat("a", 23)), "77" + strings.Repeat("61", 23)},
		{text(strings.Repeat("a", 24)), "78 18" + strings.Repeat("61", 24)},
		{text(strings.Repeat("a", 255)), "78 ff" + strings.Repeat("61", 255)},
		{text(strings.Repeat("a", 256)), "79 01 00" + strings.Repeat("61", 256)},
		{text(strings.Repeat("a", 512)), "79 02 00" + strings.Repeat("61", 512)},

		{list(), "80"},
		{list(number(1), number(2), number(3)), "83 01 02 03"},
		{list(number(1), list(number(2), number(3)), list(number(4), number(5))), "83 01 82 02 03 82 04 05"},
		{list(make23()...), "97" + strings.Repeat("05", 23)},
		{list(append(make23(), number(5))...), "98 18" + strings.Repeat("05", 24)},
		{list(append(append(make23(), make23()...), many(18)...)...), "98 40" + strings.Repeat("05", 46) + "000102030405060708090a0b0c0d0e0f1011"},
		{within(3, list()), "81 81 81 80"},
		{within(3, number(5)), "81 81 81 05"},
		{list(list(), list(list()), text("x"), raw(7)), "84 80 81 80 61 78 41 07"},
	}
}

func make23() []api.Item {
	var l []api.Item
	for range 23 {
		l = append(l, number(5))
	}
	return l
}

// P7.2: the chapter's examples, and others by hand.
func TestEncodeOfKnownItems(t *testing.T) {
	for _, q := range known() {
		b, e := cbor.Encode(q.x)
		if e != api.OK || !bytes.Equal(b, unhex(t, q.b)) {
			t.Errorf("Encode of %s: %s, error %d; want %s", short(q.x), cut(b), e, q.b)
		}
	}
}

// P7.2: all that may be has its bytes; all that may not be has ErrItem, and none.
func TestEncode(t *testing.T) {
	for what, x := range right() {
		b, e := cbor.Encode(x)
		if e != api.OK || !bytes.Equal(b, plain(x)) {
			t.Errorf("%s: Encode: %s, error %d; want %s", what, cut(b), e, cut(plain(x)))
		}
	}
	for what, x := range wrong() {
		if b, e := cbor.Encode(x); e != api.ErrItem || len(b) != 0 {
			t.Errorf("%s: Encode: %s, error %d; want nothing, ErrItem", what, cut(b), e)
		}
	}
}

// P7.2: each number of bytes and of items that there may be.
func TestEncodeOfEachSize(t *testing.T) {
	asks := func(x api.Item) {
		t.Helper()
		if b, e := cbor.Encode(x); e != api.OK || !bytes.Equal(b, plain(x)) {
			t.Errorf("Encode of %s: %s, error %d; want %s", short(x), cut(b), e, cut(plain(x)))
		}
	}
	for n := range 513 {
		asks(raw(fill(n, n)...))
		asks(text(strings.Repeat("t", n)))
	}
	for n := range 65 {
		asks(list(many(n)...))
		asks(list(number(9), list(many(n)...), raw(8)))
	}
	for shift := range 64 {
		for n := range uint64(7) {
			asks(number(1<<shift + n - 3))
		}
	}
}

// P7.2: the items of as many lists as there may be are laid one behind the other, not each time all anew.
func TestEncodeOfTheMostItems(t *testing.T) {
	x := raw(7, 8)
	for range 3 {
		x = list(slices.Repeat([]api.Item{x}, 64)...)
	}
	b, e := cbor.Encode(x)
	want := 64*(64*(64*3+2)+2) + 2
	if e != api.OK || len(b) != want || !bytes.Equal(b, plain(x)) {
		t.Fatalf("Encode: %d bytes, error %d; want %d", len(b), e, want)
	}
	y, n, e := cbor.Decode(b)
	if e != api.OK || n != want || !cbor.Same(x, y) {
		t.Errorf("Decode: %d bytes, error %d; want %d", n, e, want)
	}
}
