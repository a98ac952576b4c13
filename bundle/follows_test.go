package bundle_test

import (
	"bytes"
	"fmt"
	"testing"

	"heliograph/api"
	"heliograph/bundle"
)

func encoded(t *testing.T, b api.Bundle) []byte {
	t.Helper()
	x, e := bundle.Encode(b)
	if e != api.OK {
		t.Fatalf("Encode of %v: error %d", b, e)
	}
	return x
}

// P9.4: Decode of Encode is the bundle, and no beginning of its bytes is one.
func TestDecodeOfEncode(t *testing.T) {
	for _, b := range right() {
		x := encoded(t, b)
		decodes(t, "encoded", x, b)
		if y, _ := bundle.Decode(x); !bundle.Same(y, b) {
			t.Errorf("%v: not the same behind Encode and Decode", b)
		}
		refuses(t, "a byte less", x[:len(x)-1], api.ErrBundle)
	}
}

// P9.4: Encode of what Decode told are the bytes.
func TestEncodeOfDecode(t *testing.T) {
	told := 0
	asks := func(x []byte) {
		t.Helper()
		b, e := bundle.Decode(x)
		if e != api.OK {
			return
		}
		told++
		if bundle.Check(b) != api.OK || !bytes.Equal(encoded(t, b), x) || bundle.Size(b) != len(x) {
			t.Errorf("Decode %s: %v, which has other bytes", cut(x), b)
		}
	}
	for _, b := range right() {
		x := plain(b)
		asks(x)
		for i := range 8 * min(len(x), 60) {
			x[i/8] ^= 1 << (i % 8)
			asks(x)
			x[i/8] ^= 1 << (i % 8)
		}
	}
	d := dice(4)
	for range 20000 {
		first := numbers(tenOf(d.bundle())...)
		first[d.below(len(first))] ^= 1 << d.below(8)
		asks(packed(first, uint64(d.below(20)), fill(1, 1+d.below(20))))
	}
	if told < 1500 {
		t.Errorf("only %d of all rows were told", told)
	}
}

// P9.4: the greatest bundle has 438 bytes: none has more than MaxBlock.
func TestBytesAreAtMostMaxBlock(t *testing.T) {
	if n := len(encoded(t, greatest())); n != 438 || bundle.Size(greatest()) != 438 {
		t.Errorf("the greatest bundle has %d bytes", n)
	}
	if n := len(encoded(t, least())); n != 22 {
		t.Errorf("the least bundle has %d bytes", n)
	}
	most := 0
	for n := 1; n <= 400; n++ {
		for _, offset := range []int{0, min(24, 400-n), 400 - n} {
			b := greatest()
			b.Offset, b.Payload = offset, b.Payload[:n]
			most = max(most, len(encoded(t, b)))
		}
	}
	if most > api.MaxBlock || most != 438 {
		t.Errorf("a bundle has %d bytes", most)
	}
}

// P9.4: two bundles that differ in Hops alone differ in one byte alone, that of Hops.
func TestHopsAreOneByte(t *testing.T) {
	for _, b := range []api.Bundle{example(), unlike(), greatest()} {
		b.HopLimit = 16
		at := len(plain(b)) - len(raw(sealed32(b.Payload))) - 1
		for one := range 17 {
			for two := range 17 {
				c := b
				b.Hops, c.Hops = one, two
				x, y := encoded(t, b), encoded(t, c)
				if len(x) != len(y) || x[at] != byte(one) || y[at] != byte(two) || !bytes.Equal(x[:at], y[:at]) || !bytes.Equal(x[at+1:], y[at+1:]) {
					t.Errorf("Hops %d and %d: % x, % x", one, two, x, y)
				}
				x[at] = y[at]
				decodes(t, "the byte of Hops changed", x, c)
			}
		}
	}
}

// P9.4: with one bit turned in the Payload's bytes it is ErrSum; so it is in the first block, and in both sums.
func TestOneBitTurned(t *testing.T) {
	for _, b := range []api.Bundle{example(), unlike(), greatest(), least()} {
		x := encoded(t, b)
		last := len(x) - len(b.Payload) - 4
		first := len(sealed16(numbers(tenOf(b)...)))
		begin := 1 + len(raw(make([]byte, first))) - first
		asks := func(from, to int) {
			for i := 8 * from; i < 8*to; i++ {
				x[i/8] ^= 1 << (i % 8)
				refuses(t, fmt.Sprintf("bit %d of byte %d turned", i%8, i/8), x, api.ErrSum)
				x[i/8] ^= 1 << (i % 8)
			}
		}
		asks(last, len(x))
		asks(begin, begin+first)
		decodes(t, "all bits turned back", x, b)
	}
}

// P9.4: bundles that are not the same have other bytes.
func TestUnlikeBundlesHaveUnlikeBytes(t *testing.T) {
	l := right()
	rows := map[string]api.Bundle{}
	for _, b := range l {
		x := string(encoded(t, b))
		if c, there := rows[x]; there && !alike(b, c) {
			t.Errorf("%v and %v have the same bytes", b, c)
		}
		rows[x] = b
	}
	if len(rows) < 300 {
		t.Errorf("only %d rows of bytes", len(rows))
	}
}
