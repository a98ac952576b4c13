package bundle_test

import (
	"fmt"
	"math"
	"slices"
	"testing"

	"heliograph/api"
)

// P9.3: the bytes of bundles that may be.
func TestDecodeOfRightBytes(t *testing.T) {
	for _, b := range right() {
		decodes(t, "right", plain(b), b)
	}
}

// parts are the three items of the example's bytes.
func parts() (first, hops, payload []byte) {
	return raw(sealed16(numbers(tenOf(example())...))), number(0), raw(sealed32([]byte{5, 6}))
}

// P9.3: bytes that are no item, whether their sums are right or not.
func TestDecodeOfNoItem(t *testing.T) {
	refuses(t, "nil", nil, api.ErrBundle)
	refuses(t, "no bytes", []byte{}, api.ErrBundle)
	for _, whole := range [][]byte{plain(example()), plain(unlike()), plain(greatest())} {
		for n := range whole {
			refuses(t, "a beginning", whole[:n], api.ErrBundle)
			refuses(t, "an end", whole[n+1:], api.ErrBundle)
		}
		for x := range 256 {
			refuses(t, "a byte behind", slices.Concat(whole, []byte{byte(x)}), api.ErrBundle)
		}
		refuses(t, "twice", slices.Concat(whole, whole), api.ErrBundle)
	}
	first, hops, payload := parts()
	for what, b := range map[string][]byte{
		"a head that is no item's":         slices.Concat([]byte{0xff}, first, hops, payload),
		"a list without a count":           slices.Concat([]byte{0x9f}, first, hops, payload, []byte{0xff}),
		"a tag":                            slices.Concat([]byte{0xc0}, plain(example())),
		"a map":                            slices.Concat([]byte{0xa3}, first, hops, payload),
		"a list with a long head":          slices.Concat([]byte{0x98, 3}, first, hops, payload),
		"a first block with a long head":   list(slices.Concat([]byte{0x58, 13}, first[1:]), hops, payload),
		"a longer head":                    list(slices.Concat([]byte{0x59, 0, 13}, first[1:]), hops, payload),
		"hops with a long head":            list(first, []byte{0x18, 0}, payload),
		"hops with the longest head":       list(first, []byte{0x1b, 0, 0, 0, 0, 0, 0, 0, 0}, payload),
		"hops below nought":                list(first, []byte{0x20}, payload),
		"hops that are a bool":             list(first, []byte{0xf4}, payload),
		"a payload with a long head":       list(first, hops, slices.Concat([]byte{0x58, 6}, payload[1:])),
		"a payload without a count":        list(first, hops, slices.Concat([]byte{0x5f}, payload, []byte{0xff})),
		"a payload that is too long":       list(first, hops, raw(sealed32(fill(1, 509)))),
		"a first block that is too long":   list(raw(sealed16(fill(1, 511))), hops, payload),
		"a wrong sum, and a byte behind":   slices.Concat(list(raw([]byte{1, 2, 3}), hops, payload), []byte{0}),
		"a wrong sum, and a byte too few":  list(raw([]byte{1, 2, 3}), hops, payload[:len(payload)-1]),
		"a wrong payload, too few of it":   list(first, hops, []byte{0x46, 5, 6, 0, 0, 0}),
		"a wrong first block, a long head": list(raw([]byte{1, 2, 3}), []byte{0x18, 0}, payload),
	} {
		refuses(t, what, b, api.ErrBundle)
	}
}

// P9.3: an item that is not such a list is ErrBundle, whatever the sums are.
func TestDecodeOfOtherItems(t *testing.T) {
	first, hops, payload := parts()
	bad := raw([]byte{9, 9, 9, 9, 9, 9})
	text := func(b []byte) []byte { return slices.Concat([]byte{b[0] + 0x20}, b[1:]) }
	for what, b := range map[string][]byte{
		"a number":                         number(7),
		"bytes":                            bad,
		"the first block alone":            first,
		"the payload alone":                payload,
		"a text":                           {0x61, 'a'},
		"an empty list":                    list(),
		"a list of one":                    list(first),
		"a list of two":                    list(first, hops),
		"a list of the ends":               list(first, payload),
		"a list of four":                   list(first, hops, payload, hops),
		"a list of four, wrong sums":       list(bad, hops, bad, bad),
		"hops first":                       list(hops, first, payload),
		"hops last":                        list(first, payload, hops),
		"three numbers":                    list(hops, hops, hops),
		"three byte strings":               list(first, first, payload),
		"three byte strings, wrong sums":   list(bad, bad, bad),
		"the first a number":               list(number(7), hops, payload),
		"the first a list":                 list(numbers(tenOf(example())...), hops, payload),
		"the first a text":                 list(text(raw(sealed16(nil))), hops, payload),
		"the first a text, wrong payload":  list([]byte{0x61, 'a'}, hops, bad),
		"hops a list":                      list(first, list(hops), payload),
		"hops a list, wrong sums":          list(bad, list(), bad),
		"hops a text":                      list(first, []byte{0x60}, payload),
		"the last a number":                list(first, hops, number(5)),
		"the last a text":                  list(first, hops, text(raw(sealed32(nil)))),
		"the last a text, wrong first one": list(bad, hops, []byte{0x61, 'a'}),
		"the last a list":                  list(first, hops, list(payload)),
		"a list within a list":             list(plain(example())),
		"64 items":                         list(slices.Repeat([][]byte{first, hops, payload, hops}, 16)...),
		"65 items":                         list(slices.Repeat([][]byte{hops}, 65)...),
	} {
		refuses(t, what, b, api.ErrBundle)
	}
}

// spoilt are bytes that are opened neither by Open16 nor by Open32.
func spoilt() map[string][]byte {
	return map[string][]byte{
		"no bytes":   {},
		"one byte":   {0},
		"one more":   {0xff},
		"three":      {0, 0, 1},
		"other ones": {1, 2, 3, 4, 5, 6, 7},
		"512 bytes":  fill(8, 512),
	}
}

// P9.3: a wrong sum, of either, and with the other one right or wrong, too; whatever else is wrong inside.
func TestDecodeOfWrongSums(t *testing.T) {
	ten := numbers(tenOf(example())...)
	rightFirst := map[string][]byte{"its own": ten, "none": {}, "no item": {0xff}, "nine numbers": numbers(tenOf(example())[:9]...), "all nought": numbers(make([]uint64, 10)...)}
	rightLast := map[string][]byte{"its own": {5, 6}, "none": {}, "too many": fill(1, 401)}
	for _, hops := range []uint64{0, 4, 5, 23, 24, math.MaxUint64} {
		for what, x := range spoilt() {
			for with, p := range rightLast {
				refuses(t, "the first: "+what+", the payload right: "+with, list(raw(x), number(hops), raw(sealed32(p))), api.ErrSum)
			}
			for with, p := range rightFirst {
				refuses(t, "the payload: "+what+", the first right: "+with, list(raw(sealed16(p)), number(hops), raw(x)), api.ErrSum)
			}
			for with, y := range spoilt() {
				refuses(t, "the first: "+what+", the payload: "+with, list(raw(x), number(hops), raw(y)), api.ErrSum)
			}
		}
	}
}

// P9.3: sums of the other kind, the other way round, or of other bytes; and fewer bytes than a sum has, which are no ErrShort here.
func TestDecodeOfOtherSums(t *testing.T) {
	ten := numbers(tenOf(example())...)
	first, hops, payload := parts()
	turned := func(b []byte, n int) []byte {
		c := slices.Clone(b)
		slices.Reverse(c[len(c)-n:])
		return c
	}
	for what, b := range map[string][]byte{
		"the first one sealed by 32":     list(raw(sealed32(ten)), hops, payload),
		"the payload sealed by 16":       list(first, hops, raw(sealed16([]byte{5, 6}))),
		"the first sum turned round":     list(turned(first, 2), hops, payload),
		"the payload's sum turned round": list(first, hops, turned(payload, 4)),
		"the first one not sealed":       list(raw(ten), hops, payload),
		"the payload not sealed":         list(first, hops, raw([]byte{5, 6})),
		"both not sealed":                list(raw(ten), hops, raw([]byte{5, 6})),
		"exchanged":                      list(payload, hops, first),
		"a first sum of one byte":        list(raw([]byte{0}), hops, payload),
		"a payload's sum of two bytes":   list(first, hops, raw([]byte{0, 0})),
		"a payload's sum of three bytes": list(first, hops, raw([]byte{0, 0, 0})),
		"another payload's sum":          list(first, hops, raw(slices.Concat([]byte{5, 7}, payload[3:]))),
	} {
		refuses(t, what, b, api.ErrSum)
	}
}

// P9.3: right sums over a first block that is none.
func TestDecodeOfNoFirstBlock(t *testing.T) {
	x := tenOf(example())
	ten := numbers(x...)
	swapped := slices.Clone(ten)
	swapped[0] = 0x8b
	for what, first := range map[string][]byte{
		"no bytes":              {},
		"no item":               {0xff},
		"a number":              number(7),
		"bytes":                 raw(ten),
		"an empty list":         list(),
		"nine numbers":          numbers(x[:9]...),
		"without the seven":     numbers(x[1:]...),
		"eleven numbers":        numbers(append(slices.Clone(x), 0)...),
		"64 numbers":            numbers(make([]uint64, 64)...),
		"65 numbers":            numbers(make([]uint64, 65)...),
		"a byte behind":         slices.Concat(ten, []byte{0}),
		"twice":                 slices.Concat(ten, ten),
		"a byte too few":        ten[:len(ten)-1],
		"a greater count":       swapped,
		"a long count":          slices.Concat([]byte{0x98, 10}, ten[1:]),
		"without a count":       slices.Concat([]byte{0x9f}, ten[1:], []byte{0xff}),
		"within a list":         list(ten),
		"sealed twice":          sealed16(ten),
		"the numbers as a text": slices.Concat([]byte{0x6a}, ten[1:]),
	} {
		refuses(t, what, packed(first, 0, []byte{5, 6}), api.ErrBundle)
	}
	for i := range 10 {
		var rows [][]byte
		for _, n := range x {
			rows = append(rows, number(n))
		}
		for _, other := range [][]byte{raw(nil), raw([]byte{1}), {0x60}, {0x61, '1'}, list(), list(number(x[i])), {0x20}, {0xf4}} {
			l := slices.Clone(rows)
			l[i] = other
			refuses(t, fmt.Sprintf("% x in the place %d", other, i), packed(list(l...), 0, []byte{5, 6}), api.ErrBundle)
		}
		for _, long := range [][]byte{{0x18}, {0x19, 0}, {0x1a, 0, 0, 0}, {0x1b, 0, 0, 0, 0, 0, 0, 0}} {
			l := slices.Clone(rows)
			l[i] = append(slices.Clone(long), byte(x[i]))
			refuses(t, fmt.Sprintf("% x in the place %d", l[i], i), packed(list(l...), 0, []byte{5, 6}), api.ErrBundle)
		}
	}
}

// P9.3: right sums over numbers that are no bundle's, each field just within and just outside, and numbers that would be right, if a part of their bits were lost.
func TestDecodeOfNumbers(t *testing.T) {
	if asTold(t, "the example", plain(example())) != api.OK {
		t.Error("the example is refused")
	}
	var each []uint64
	for _, n := range []uint64{0, 1, 2, 3, 4, 5, 6, 7, 8, 9, 10, 15, 16, 17, 23, 24, 255, 256, 257, 398, 399, 400, 401, 65536, 1<<20 - 1, 1 << 20, 1<<20 + 1} {
		each = append(each, n, 1<<32-n, 1<<32+n, 1<<63-n, 1<<63+n, 1<<63+1<<32+n, -n)
	}
	taken := 0
	for _, b := range []api.Bundle{example(), unlike(), least()} {
		for i := range 10 {
			for _, n := range each {
				x := tenOf(b)
				x[i] = n
				if asTold(t, fmt.Sprint("the number ", n, " in the place ", i), packed(numbers(x...), uint64(b.Hops), b.Payload)) == api.OK {
					taken++
				}
			}
		}
		for _, n := range each {
			asTold(t, fmt.Sprint("Hops ", n), packed(numbers(tenOf(b)...), n, b.Payload))
		}
	}
	if taken < 150 {
		t.Errorf("only %d of all numbers were taken", taken)
	}
}

// P9.3: the edges, one by one.
func TestDecodeAtTheEdges(t *testing.T) {
	place := map[string]int{"Version": 0, "Dest": 1, "Source": 2, "Seq": 3, "Created": 4, "Lifetime": 5, "Offset": 6, "Total": 7, "Priority": 8, "HopLimit": 9}
	for _, r := range []struct {
		field string
		n     uint64
		want  api.Errno
	}{
		{"Version", 0, api.ErrBundle}, {"Version", 6, api.ErrBundle}, {"Version", 8, api.ErrBundle}, {"Version", 1<<32 + 7, api.ErrBundle}, {"Version", 1<<63 + 7, api.ErrBundle},
		{"Dest", 0, api.ErrBundle}, {"Dest", 1, api.OK}, {"Dest", 6, api.OK}, {"Dest", 7, api.ErrBundle},
		{"Source", 0, api.ErrBundle}, {"Source", 1, api.OK}, {"Source", 6, api.OK}, {"Source", 7, api.ErrBundle},
		{"Seq", 0, api.ErrBundle}, {"Seq", 1, api.OK}, {"Seq", 1<<32 - 1, api.OK}, {"Seq", 1 << 32, api.ErrBundle}, {"Seq", 1<<32 + 1, api.ErrBundle}, {"Seq", 1<<63 + 1, api.ErrBundle},
		{"Created", 0, api.OK}, {"Created", 1, api.OK}, {"Created", 1 << 20, api.OK}, {"Created", 1<<20 + 1, api.ErrBundle}, {"Created", math.MaxUint64, api.ErrBundle},
		{"Lifetime", 0, api.ErrBundle}, {"Lifetime", 1, api.OK}, {"Lifetime", 1 << 20, api.OK}, {"Lifetime", 1<<20 + 1, api.ErrBundle},
		{"Offset", 0, api.OK}, {"Offset", 1, api.ErrBundle}, {"Offset", math.MaxInt64, api.ErrBundle}, {"Offset", math.MaxUint64, api.ErrBundle},
		{"Total", 0, api.ErrBundle}, {"Total", 1, api.ErrBundle}, {"Total", 2, api.OK}, {"Total", 400, api.OK}, {"Total", 401, api.ErrBundle}, {"Total", math.MaxInt64, api.ErrBundle},
		{"Priority", 0, api.OK}, {"Priority", 2, api.OK}, {"Priority", 3, api.ErrBundle}, {"Priority", math.MaxUint64, api.ErrBundle},
		{"HopLimit", 0, api.ErrBundle}, {"HopLimit", 1, api.OK}, {"HopLimit", 16, api.OK}, {"HopLimit", 17, api.ErrBundle},
	} {
		x := tenOf(example())
		x[place[r.field]] = r.n
		if e := asTold(t, fmt.Sprint(r.field, " ", r.n), packed(numbers(x...), 0, []byte{5, 6})); e != r.want {
			t.Errorf("%s %d: error %d, want %d", r.field, r.n, e, r.want)
		}
	}
	for hops, want := range map[uint64]api.Errno{0: api.OK, 4: api.OK, 5: api.ErrBundle, 16: api.ErrBundle, 24: api.ErrBundle, 1 << 32: api.ErrBundle, 1<<63 + 1: api.ErrBundle, math.MaxUint64: api.ErrBundle} {
		if e := asTold(t, fmt.Sprint("Hops ", hops), packed(numbers(tenOf(example())...), hops, []byte{5, 6})); e != want {
			t.Errorf("Hops %d: error %d, want %d", hops, e, want)
		}
	}
}

// P9.3: payloads of each length under each of some Totals and Offsets.
func TestDecodeOfEachLength(t *testing.T) {
	all := fill(2, 508)
	for _, r := range [][2]int{{0, 1}, {0, 2}, {1, 2}, {0, 24}, {3, 24}, {0, 400}, {1, 400}, {399, 400}, {400, 400}, {0, 401}, {5, 3}} {
		for n := range 509 {
			x := tenOf(unlike())
			x[6], x[7] = uint64(r[0]), uint64(r[1])
			want := api.ErrBundle
			if n >= 1 && r[1] <= 400 && r[0]+n <= r[1] {
				want = api.OK
			}
			if e := asTold(t, fmt.Sprint(n, " bytes from ", r[0], " on of ", r[1]), packed(numbers(x...), 9, all[:n])); e != want {
				t.Errorf("%d bytes from %d on of %d: error %d, want %d", n, r[0], r[1], e, want)
			}
		}
	}
}

// P9.3, R1: rows of bytes of all kinds end, and are told as they are told once more.
func TestDecodeOfAnyBytes(t *testing.T) {
	d := dice(23)
	seen := map[api.Errno]int{}
	for range 20000 {
		b := plain(d.bundle())
		for range 1 + d.below(3) {
			at := d.below(len(b))
			switch d.below(4) {
			case 0:
				b[at] ^= 1 << d.below(8)
			case 1:
				b = slices.Delete(b, at, at+1)
			case 2:
				b = slices.Insert(b, at, byte(d.below(256)))
			case 3:
				b[min(at, d.below(40))] = byte(d.below(256))
			}
		}
		seen[asTold(t, "spoilt", b)]++
	}
	for range 20000 {
		first := numbers(tenOf(d.bundle())...)
		for range 1 + d.below(2) {
			first[d.below(len(first))] = byte(d.below(256) >> d.below(8))
		}
		seen[asTold(t, "a spoilt first block that was sealed", packed(first, uint64(d.below(6)), fill(1, 1+d.below(30))))]++
	}
	if seen[api.OK] < 100 || seen[api.ErrSum] < 1000 || seen[api.ErrBundle] < 1000 {
		t.Errorf("told: %v", seen)
	}
}
