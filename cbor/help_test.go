package cbor_test

import (
	"bytes"
	"encoding/binary"
	"fmt"
	"math"
	"slices"
	"strings"
	"testing"
	"unicode/utf8"

	"heliograph/api"
	"heliograph/cbor"
)

// The items as the chapter's words say them, without the calls that are tested.

func number(n uint64) api.Item {
	return api.Item{Kind: 1, Num: n}
}

func raw(b ...byte) api.Item {
	return api.Item{Kind: 2, Bytes: b}
}

func text(s string) api.Item {
	return api.Item{Kind: 3, Bytes: []byte(s)}
}

func list(l ...api.Item) api.Item {
	return api.Item{Kind: 4, Items: l}
}

// within is x within n lists, each of which has it alone.
func within(n int, x api.Item) api.Item {
	for range n {
		x = list(x)
	}
	return x
}

// fill is n bytes, others for each seed, none of them a nought.
func fill(seed, n int) []byte {
	b := make([]byte, n)
	for i := range b {
		b[i] = byte(1 + (seed*31+i*7)%255)
	}
	return b
}

// many are n numbers, each another one.
func many(n int) []api.Item {
	var l []api.Item
	for i := range n {
		l = append(l, number(uint64(i)))
	}
	return l
}

// steps are the numbers at each step of a head.
func steps() []uint64 {
	return []uint64{0, 1, 22, 23, 24, 25, 127, 128, 254, 255, 256, 257, 65534, 65535, 65536, 65537,
		1<<24 - 1, 1 << 24, math.MaxUint32 - 1, math.MaxUint32, math.MaxUint32 + 1, 1 << 40, math.MaxInt64, math.MaxInt64 + 1, math.MaxUint64 - 1, math.MaxUint64}
}

// right are items that may be: each kind, and the edges.
func right() map[string]api.Item {
	m := map[string]api.Item{
		"no bytes, nil":             {Kind: 2},
		"no bytes, empty":           {Kind: 2, Bytes: []byte{}},
		"no text, nil":              {Kind: 3},
		"no text, empty":            {Kind: 3, Bytes: []byte{}},
		"no items, nil":             {Kind: 4},
		"no items, empty":           {Kind: 4, Items: []api.Item{}},
		"a number, the rest empty":  {Kind: 1, Num: 9, Bytes: []byte{}, Items: []api.Item{}},
		"bytes, the rest empty":     {Kind: 2, Bytes: []byte{7}, Items: []api.Item{}},
		"a text, the rest empty":    {Kind: 3, Bytes: []byte("x"), Items: []api.Item{}},
		"a list, the rest empty":    {Kind: 4, Bytes: []byte{}, Items: []api.Item{number(4)}},
		"bytes that are no UTF-8":   raw(0xff, 0x80, 0xc0),
		"text of noughts":           text("\x00\x00"),
		"text of each length":       text("a\u00e4\u20ac\U0001f600"),
		"the last rune":             text("\U0010ffff"),
		"the rune of what is wrong": text("\ufffd"),
		"MaxItems items":            list(many(64)...),
		"MaxItems lists":            list(slices.Repeat([]api.Item{list(many(64)...)}, 64)...),
		"MaxDeep, empty list":       within(3, list()),
		"MaxDeep, number":           within(3, number(5)),
		"MaxDeep, bytes":            within(3, raw(fill(1, 512)...)),
		"MaxDeep, text":             within(3, text("deep")),
		"MaxDeep behind others":     list(number(1), raw(2), list(text("3"), list(number(4), list(), number(5))), number(6)),
		"one of each":               list(number(1), raw(1), text("1"), list(number(1))),
	}
	for _, n := range steps() {
		m[fmt.Sprint("the number ", n)] = number(n)
	}
	for _, n := range []int{1, 2, 22, 23, 24, 25, 64, 65, 254, 255, 256, 257, 511, 512} {
		m[fmt.Sprint(n, " bytes")] = raw(fill(n, n)...)
		m[fmt.Sprint("a text of ", n)] = text(strings.Repeat("t", n))
	}
	for _, n := range []int{1, 2, 22, 23, 24, 25, 63} {
		m[fmt.Sprint(n, " items")] = list(many(n)...)
	}
	return m
}

// wrong are items that may not be, each by one thing alone.
func wrong() map[string]api.Item {
	nothing := api.Item{}
	m := map[string]api.Item{
		"nothing":                     nothing,
		"a number with bytes":         {Kind: 1, Bytes: []byte{0}},
		"a number with an item":       {Kind: 1, Items: []api.Item{number(0)}},
		"a number with no item":       {Kind: 1, Items: []api.Item{nothing}},
		"bytes with a number":         {Kind: 2, Num: 1, Bytes: []byte{1}},
		"bytes with a great number":   {Kind: 2, Num: 1 << 63},
		"bytes with an item":          {Kind: 2, Items: []api.Item{number(0)}},
		"a text with a number":        {Kind: 3, Num: 1, Bytes: []byte("a")},
		"a text with a great number":  {Kind: 3, Num: 1 << 32},
		"a text with an item":         {Kind: 3, Items: []api.Item{number(0)}},
		"a list with a number":        {Kind: 4, Num: 1},
		"a list with a great number":  {Kind: 4, Num: 1 << 32, Items: []api.Item{number(0)}},
		"a list with bytes":           {Kind: 4, Bytes: []byte{0}},
		"a list with bytes and items": {Kind: 4, Bytes: []byte{0}, Items: []api.Item{number(0)}},
		"513 bytes":                   raw(fill(1, 513)...),
		"a text of 513 bytes":         text(strings.Repeat("t", 513)),
		"65536 bytes":                 raw(make([]byte, 65536)...),
		"65537 items":                 list(slices.Repeat([]api.Item{number(1)}, 65537)...),
		"65 items":                    list(many(65)...),
		"65 empty lists":              list(slices.Repeat([]api.Item{list()}, 65)...),
		"five lists":                  within(4, list()),
		"a number within four":        within(4, number(5)),
		"no bytes within four":        within(4, raw()),
		"a text within four":          within(4, text("deep")),
		"very deep":                   within(1000, number(1)),
		"deep behind others":          list(number(1), list(list(), list(number(2), list(number(3)))), number(4)),
		"a wrong one at the end":      list(append(many(63), nothing)...),
		"a wrong one at the begin":    list(append([]api.Item{nothing}, many(63)...)...),
		"a wrong one at the bottom":   within(3, raw(fill(1, 513)...)),
		"a wrong text at the bottom":  within(3, text("\xff")),
		"a wrong list in the midst":   list(number(1), list(many(65)...), number(2)),
	}
	for _, kind := range []int{-1, 5, 6, 255, 256, 257, 258, 259, 260, -255, 1<<32 + 1, 1<<32 + 4, math.MinInt, math.MaxInt} {
		m[fmt.Sprint("Kind ", kind)] = api.Item{Kind: kind}
		m[fmt.Sprint("Kind ", kind, " in a list")] = list(number(1), api.Item{Kind: kind})
	}
	for i, s := range noTexts() {
		m[fmt.Sprintf("the text % x (%d)", s, i)] = text(s)
	}
	return m
}

// noTexts are bytes that are no UTF-8.
func noTexts() []string {
	return []string{
		"\xff", "\xfe", "\x80", "\xbf", "\xc0\x80", "\xc1\xbf", "\xc3", "\xe2\x82", "\xf0\x9f\x98", "\xe0\x80\x80", "\xe0\x9f\xbf",
		"\xed\xa0\x80", "\xed\xbf\xbf", "\xf0\x80\x80\x80", "\xf4\x90\x80\x80", "\xf5\x80\x80\x80", "\xf8\x88\x80\x80\x80",
		"a\xff", "\xffa", "a\xc3b", "\xe2\x82a", strings.Repeat("t", 22) + "\xc3", strings.Repeat("t", 511) + "\xc3", "\xff" + strings.Repeat("t", 511),
	}
}

// alike is Same, told once more.
func alike(a, b api.Item) bool {
	if a.Kind != b.Kind || a.Num != b.Num || !bytes.Equal(a.Bytes, b.Bytes) || len(a.Items) != len(b.Items) {
		return false
	}
	for i := range a.Items {
		if !alike(a.Items[i], b.Items[i]) {
			return false
		}
	}
	return true
}

// deep is a copy that shares nothing.
func deep(x api.Item) api.Item {
	x.Bytes = slices.Clone(x.Bytes)
	x.Items = slices.Clone(x.Items)
	for i := range x.Items {
		x.Items[i] = deep(x.Items[i])
	}
	return x
}

func zero(x api.Item) bool {
	return x.Kind == 0 && x.Num == 0 && len(x.Bytes) == 0 && len(x.Items) == 0
}

// short tells an item without all of its bytes.
func short(x api.Item) string {
	s := fmt.Sprintf("%d: %d, (%d) % x, (%d)", x.Kind, x.Num, len(x.Bytes), x.Bytes[:min(8, len(x.Bytes))], len(x.Items))
	for _, y := range x.Items[:min(2, len(x.Items))] {
		s += " {" + short(y) + "}"
	}
	return s
}

// cut tells bytes without all of them.
func cut(b []byte) string {
	return fmt.Sprintf("(%d) % x", len(b), b[:min(24, len(b))])
}

// head is a head of the type with n behind it in size bytes, whether it needs them or not; in its first byte, if size is 0.
func head(kind, size int, n uint64) []byte {
	b := binary.BigEndian.AppendUint64(nil, n)[8-size:]
	switch size {
	case 0:
		return []byte{byte(32*kind + int(n))}
	case 1:
		return append([]byte{byte(32*kind + 24)}, b...)
	case 2:
		return append([]byte{byte(32*kind + 25)}, b...)
	case 4:
		return append([]byte{byte(32*kind + 26)}, b...)
	}
	return append([]byte{byte(32*kind + 27)}, b...)
}

// needs is in how many bytes behind a head's first one a number has room.
func needs(n uint64) int {
	switch {
	case n <= 23:
		return 0
	case n <= 255:
		return 1
	case n <= 65535:
		return 2
	case n <= 4294967295:
		return 4
	}
	return 8
}

// plain are the bytes of an item, told once more.
func plain(x api.Item) []byte {
	n := x.Num + uint64(len(x.Bytes)) + uint64(len(x.Items))
	b := head([]int{0, 0, 2, 3, 4}[x.Kind], needs(n), n)
	b = append(b, x.Bytes...)
	for _, y := range x.Items {
		b = append(b, plain(y)...)
	}
	return b
}

// told is Decode, told once more: byte by byte, with the lists that are not at their end yet in a row.
func told(b []byte) (api.Item, int, api.Errno) {
	var open []api.Item
	var missing []uint64
	at := 0
	for {
		x, n, size, e := toldOne(b[at:], len(open))
		if e != api.OK {
			return api.Item{}, 0, e
		}
		at += size
		if x.Kind == 4 && n > 0 {
			open, missing = append(open, x), append(missing, n)
			continue
		}
		for len(open) > 0 {
			last := len(open) - 1
			open[last].Items = append(open[last].Items, x)
			missing[last]--
			if missing[last] > 0 {
				break
			}
			x = open[last]
			open, missing = open[:last], missing[:last]
		}
		if len(open) == 0 {
			return x, at, api.OK
		}
	}
}

// toldOne tells the first item, of a list its head alone, with the head's number, and how many bytes that are.
func toldOne(b []byte, within int) (x api.Item, n uint64, size int, e api.Errno) {
	if len(b) == 0 {
		return x, 0, 0, api.ErrShort
	}
	x.Kind = []int{1, 0, 2, 3, 4, 0, 0, 0}[b[0]/32]
	if within > 3 || x.Kind == 0 || b[0]%32 > 27 {
		return x, 0, 0, api.ErrItem
	}
	most := []uint64{0, math.MaxUint64, 512, 512, 64}[x.Kind]
	n, size, e = toldHead(b, most)
	if e != api.OK {
		return x, 0, 0, e
	}
	if x.Kind == 1 {
		x.Num = n
	}
	if x.Kind == 2 || x.Kind == 3 {
		if uint64(len(b)-size) < n {
			return x, 0, 0, api.ErrShort
		}
		x.Bytes = slices.Clone(b[size : size+int(n)])
		size += int(n)
	}
	if x.Kind == 3 && !utf8.ValidString(string(x.Bytes)) {
		return x, 0, 0, api.ErrItem
	}
	return x, n, size, api.OK
}

// toldHead holds the least and the greatest number that the bytes up to each one can begin with against what a head may say.
func toldHead(b []byte, most uint64) (uint64, int, api.Errno) {
	ending := int(b[0] % 32)
	if ending < 24 {
		return uint64(ending), 1, api.OK
	}
	size := []int{1, 2, 4, 8}[ending-24]
	for got := 1; ; got++ {
		if len(b) <= got {
			return 0, 0, api.ErrShort
		}
		digits := slices.Concat(make([]byte, 8-size), b[1:1+got])
		least := binary.BigEndian.Uint64(append(slices.Clone(digits), make([]byte, size-got)...))
		greatest := binary.BigEndian.Uint64(append(slices.Clone(digits), bytes.Repeat([]byte{255}, size-got)...))
		if needs(greatest) < size || least > most {
			return 0, 0, api.ErrItem
		}
		if got == size {
			return least, 1 + size, api.OK
		}
	}
}

// decodes asks for an item, and how many bytes it had.
func decodes(t *testing.T, what string, b []byte, want api.Item, size int) {
	t.Helper()
	x, n, e := cbor.Decode(b)
	if e != api.OK || n != size || !alike(x, want) {
		t.Errorf("%s: Decode %s: %s, %d bytes, error %d; want %s, %d", what, cut(b), short(x), n, e, short(want), size)
	}
}

// refuses asks for an error, and zeros beside it.
func refuses(t *testing.T, what string, b []byte, want api.Errno) {
	t.Helper()
	x, n, e := cbor.Decode(b)
	if e != want || n != 0 || !zero(x) {
		t.Errorf("%s: Decode %s: %s, %d bytes, error %d; want nothing, error %d", what, cut(b), short(x), n, e, want)
	}
}

// asTold holds Decode against what is told.
func asTold(t *testing.T, what string, b []byte) api.Errno {
	t.Helper()
	x, n, e := told(b)
	if e != api.OK {
		refuses(t, what, b, e)
	} else {
		decodes(t, what, b, x, n)
	}
	return e
}

// dice is a row of numbers that is the same at each run.
type dice uint64

func (d *dice) below(n int) int {
	*d = *d*6364136223846793005 + 1442695040888963407
	return int(uint64(*d>>33) % uint64(n))
}

// item is an item that may be, at most so deep.
func (d *dice) item(deep int) api.Item {
	lengths := []int{0, 1, 2, 5, 22, 23, 24, 30, 255, 256, 512}
	switch d.below(5) {
	case 0:
		s := steps()
		return number(s[d.below(len(s))])
	case 1:
		return raw(fill(d.below(99), lengths[d.below(len(lengths))])...)
	case 2:
		return text(strings.Repeat("\u00e4", d.below(15)) + strings.Repeat("t", d.below(30)))
	}
	var l []api.Item
	if deep > 1 {
		for range d.below(5) {
			l = append(l, d.item(deep-1))
		}
		if d.below(8) == 0 {
			l = append(l, many(20+d.below(39))...)
		}
	}
	return list(l...)
}
