package sdnv_test

import (
	"math"
	"slices"
	"testing"

	"heliograph/api"
)

// P8.2: the chapter's examples.
func TestGetExamples(t *testing.T) {
	gets(t, "bytes behind", []byte{0x82, 0x2c, 0x05}, 300, 2)
	refuses(t, "a mark alone", []byte{0x81}, api.ErrShort)
	refuses(t, "a nought ahead", []byte{0x80, 0x01}, api.ErrSdnv)
	refuses(t, "none", nil, api.ErrShort)
	refuses(t, "82 and nine times 80", row(9, 0x80, 0x82), api.ErrLong)
	refuses(t, "81 and nine times FF", row(9, 0xff, 0x81), api.ErrShort)
	gets(t, "81, eight times FF, 7F", append(row(8, 0xff, 0x81), 0x7f), math.MaxUint64, 10)
}

// P8.2: the number at each step of a length, alone and with anything behind it.
func TestGetAtEachStep(t *testing.T) {
	for n, b := range known() {
		for _, behind := range [][]byte{nil, {0x00}, {0x7f}, {0x80}, {0x81}, {0xff, 0xff}, row(2000, 0xff)} {
			gets(t, "a step", slices.Concat(b, behind), n, len(b))
		}
	}
}

// P8.2: no byte below 128, with digits that have room: ErrShort, from no bytes up to ten.
func TestGetShort(t *testing.T) {
	refuses(t, "empty", []byte{}, api.ErrShort)
	for n := range 10 {
		refuses(t, "81 and 80", row(n, 0x80, 0x81), api.ErrShort)
		refuses(t, "81 and FF", row(n, 0xff, 0x81), api.ErrShort)
		if n < 9 {
			refuses(t, "FF alone", row(n, 0xff, 0xff), api.ErrShort)
			refuses(t, "82 and 80", row(n, 0x80, 0x82), api.ErrShort)
			refuses(t, "C0 and 80", row(n, 0x80, 0xc0), api.ErrShort)
		}
	}
	for n, b := range known() {
		for k := range b {
			refuses(t, "cut off", b[:k], api.ErrShort)
		}
		if n > 0 {
			marked := slices.Clone(b)
			marked[len(b)-1] |= 0x80
			refuses(t, "the last one marked", marked, api.ErrShort)
		}
	}
}

// P8.2: a nought ahead goes ahead of all else, whatever stands behind it.
func TestGetNoughtAhead(t *testing.T) {
	for _, behind := range [][]byte{nil, {0x00}, {0x01}, {0x7f}, {0x80}, {0x80, 0x00}, {0x81}, {0xff}, row(8, 0xff), row(9, 0xff), row(10, 0xff), row(30, 0xff), row(30, 0x80), append(row(8, 0xff), 0x7f)} {
		refuses(t, "80 ahead", slices.Concat([]byte{0x80}, behind), api.ErrSdnv)
	}
	for x := range 256 {
		if x != 0x80 {
			asTold(t, "any other first byte", []byte{byte(x), 0x80, 0x00})
		}
	}
	gets(t, "a nought within", []byte{0x81, 0x80, 0x01}, 16385, 3)
	gets(t, "a nought ahead of what is behind", []byte{0x00, 0x80}, 0, 1)
}

// P8.2: digits that are just 2^64 - 1, just 2^64, and more, with and without a byte below 128 behind them or as the last one.
func TestGetLong(t *testing.T) {
	for what, b := range map[string][]byte{
		"2^64":                          append(row(8, 0x80, 0x82), 0x00),
		"2^64, marked":                  row(9, 0x80, 0x82),
		"2^64 and 1":                    append(row(8, 0x80, 0x82), 0x01),
		"83 and nine":                   row(9, 0x80, 0x83),
		"FF and nine, the last below":   append(row(8, 0xff, 0xff), 0x7f),
		"FF ten times":                  row(9, 0xff, 0xff),
		"FF and 80":                     row(9, 0x80, 0xff),
		"C0 and 80":                     row(9, 0x80, 0xc0),
		"2^64 - 1, and a nought":        append(row(9, 0xff, 0x81), 0x00),
		"2^64 - 1, and a marked nought": append(row(9, 0xff, 0x81), 0x80),
		"2^64 - 1, and one more":        append(row(9, 0xff, 0x81), 0x7f),
		"2^63, and a nought":            append(row(9, 0x80, 0x81), 0x00),
		"2^63, and a marked nought":     append(row(9, 0x80, 0x81), 0x80),
		"far more":                      row(1000, 0xff, 0xff),
		"far more, with an end":         append(row(1000, 0xff, 0xff), 0x00),
		"2^64 at a wrapped number":      append(row(9, 0x80, 0x82), 0x05),
		"what wraps to a small number":  append(row(10, 0x80, 0x81), 0x05),
		"what wraps to nought":          append(row(20, 0x80, 0x81), 0x00),
	} {
		refuses(t, what, b, api.ErrLong)
	}
}

// P8.2: ErrLong comes with the first byte with which the digits are more, and up to the one ahead of it ErrShort.
func TestGetLongAtItsByte(t *testing.T) {
	for _, x := range []struct {
		b  []byte
		at int // with how many bytes it is ErrLong
	}{
		{row(20, 0x80, 0x82), 10},
		{row(20, 0xff, 0xff), 10},
		{row(20, 0x80, 0xff), 10},
		{row(20, 0x80, 0x81), 11},
		{row(20, 0xff, 0x81), 11},
		{append(row(9, 0xff, 0x81), row(10, 0x80)...), 11},
		{append(row(9, 0x80, 0x82), 0x00, 0x00), 10},
	} {
		for k := range len(x.b) + 1 {
			want := api.ErrShort
			if k >= x.at {
				want = api.ErrLong
			}
			refuses(t, "byte by byte", x.b[:k], want)
		}
	}
}

// P8.2: all rows of up to two bytes, and many of three, against a second telling.
func TestGetShortRowsAsTold(t *testing.T) {
	asTold(t, "none", nil)
	edges := []byte{0x00, 0x01, 0x02, 0x7e, 0x7f, 0x80, 0x81, 0x82, 0xfe, 0xff}
	for x := range 256 {
		asTold(t, "one", []byte{byte(x)})
		for y := range 256 {
			asTold(t, "two", []byte{byte(x), byte(y)})
			for _, z := range edges {
				asTold(t, "three", []byte{byte(x), byte(y), z})
			}
		}
	}
}

// P8.2: rows around the length of the greatest numbers, of bytes at the edges, against a second telling.
func TestGetLongRowsAsTold(t *testing.T) {
	d := dice(5)
	edges := []byte{0x80, 0x81, 0x82, 0x83, 0xbf, 0xc0, 0xfe, 0xff}
	count := map[api.Errno]int{}
	for range 60000 {
		b := []byte{edges[d.below(len(edges))]}
		if d.below(3) == 0 {
			b[0] = 0x81
		}
		for range 6 + d.below(7) {
			x := edges[d.below(len(edges))]
			if d.below(2) == 0 {
				x = byte(d.below(256)) | 0x80
			}
			b = append(b, x)
		}
		for range d.below(3) {
			b = append(b, byte(d.below(256)))
		}
		count[asTold(t, "a long row", b)]++
	}
	for _, e := range []api.Errno{api.OK, api.ErrShort, api.ErrLong, api.ErrSdnv} {
		if count[e] < 500 {
			t.Errorf("of the rows only %d have the error %d", count[e], e)
		}
	}
}
