package cbor_test

import (
	"bytes"
	"fmt"
	"slices"
	"testing"

	"heliograph/api"
	"heliograph/cbor"
)

func encoded(t *testing.T, x api.Item) []byte {
	t.Helper()
	b, e := cbor.Encode(x)
	if e != api.OK {
		t.Fatalf("Encode of %s: error %d", short(x), e)
	}
	return b
}

// someItems are the right ones, and others, at each run the same.
func someItems() []api.Item {
	var l []api.Item
	for _, x := range right() {
		l = append(l, x)
	}
	d := dice(7)
	for range 300 {
		l = append(l, d.item(api.MaxDeep))
	}
	return l
}

// P7.4: Decode of Encode is the item, whatever stands behind, and each beginning is ErrShort.
func TestDecodeOfEncode(t *testing.T) {
	for _, x := range someItems() {
		b := encoded(t, x)
		for _, more := range [][]byte{nil, {0}, {0x18}, {0xff}, bytes.Repeat([]byte{0x81}, 9), b} {
			decodes(t, "encoded", slices.Concat(b, more), x, len(b))
		}
		for n := range b {
			if len(b) < 2000 || n < 700 || n > len(b)-100 {
				refuses(t, fmt.Sprint("the first ", n, " bytes"), b[:n], api.ErrShort)
			}
		}
	}
}

// P7.4: Encode of what Decode told are the bytes that it took.
func TestEncodeOfDecode(t *testing.T) {
	told := 0
	asks := func(b []byte) {
		t.Helper()
		x, n, e := cbor.Decode(b)
		if e != api.OK {
			return
		}
		told++
		if cbor.Check(x) != api.OK || !bytes.Equal(encoded(t, x), b[:n]) {
			t.Errorf("Decode %s: %s, %d bytes, which has others", cut(b), short(x), n)
		}
	}
	for a := range 256 {
		for b := range 256 {
			asks([]byte{byte(a), byte(b), 1, 2, 3, 4, 5, 6, 7})
			asks([]byte{0x82, byte(a), byte(b), 0, 0, 1, 0, 0, 0, 0, 0, 0, 0})
		}
	}
	d := dice(3)
	for range 3000 {
		b := plain(d.item(api.MaxDeep))
		b[d.below(len(b))] ^= 1 << d.below(8)
		asks(append(b, fill(2, 20)...))
	}
	if told < 5000 {
		t.Errorf("only %d of all rows were told", told)
	}
}

// P7.4: two unlike items have unlike bytes, and neither are the begin of the other's.
func TestUnlikeItemsHaveUnlikeBytes(t *testing.T) {
	var l []api.Item
	for _, x := range someItems() {
		if !slices.ContainsFunc(l, func(y api.Item) bool { return alike(x, y) }) {
			l = append(l, x)
		}
	}
	rows := make([][]byte, len(l))
	for i, x := range l {
		rows[i] = encoded(t, x)
	}
	for i := range l {
		for j := range l {
			if i != j && bytes.HasPrefix(rows[i], rows[j]) {
				t.Errorf("%s and %s: %s, %s", short(l[i]), short(l[j]), cut(rows[i]), cut(rows[j]))
			}
		}
	}
}

// P7.4: items one behind the other are told one by one.
func TestItemsInARow(t *testing.T) {
	d := dice(5)
	var l []api.Item
	var b []byte
	for range 50 {
		x := d.item(api.MaxDeep)
		l = append(l, x)
		b = append(b, encoded(t, x)...)
	}
	for i, want := range l {
		x, n, e := cbor.Decode(b)
		if e != api.OK || !alike(x, want) {
			t.Fatalf("item %d: %s, error %d; want %s", i, short(x), e, short(want))
		}
		b = b[n:]
	}
	refuses(t, "all told", b, api.ErrShort)
}
