package cbor_test

import (
	"bytes"
	"slices"
	"testing"

	"heliograph/api"
	"heliograph/cbor"
)

// roomy is an item whose lists have room behind their ends, in which something stands, and share memory; the items' own lists, and the bytes.
func roomy() (api.Item, [][]api.Item, []byte) {
	b := bytes.Repeat([]byte{0x65}, 60)
	inner := []api.Item{{Kind: 2, Bytes: b[10:13]}, {Kind: 3, Bytes: b[10:13]}, {Kind: 2, Bytes: b[20:20]}, number(77), number(78)}
	one := api.Item{Kind: 4, Items: inner[:3]}
	outer := []api.Item{number(5), one, {Kind: 2, Bytes: b[30:32]}, one, number(79), number(80)}
	return api.Item{Kind: 4, Items: outer[:4]}, [][]api.Item{inner, outer}, b
}

func untouched(t *testing.T, what string, lists [][]api.Item, b []byte) {
	t.Helper()
	_, want, room := roomy()
	if !bytes.Equal(b, room) {
		t.Errorf("%s: the bytes that were handed in are % x now", what, b)
	}
	for i, l := range lists {
		for j, x := range l {
			if !alike(x, want[i][j]) {
				t.Errorf("%s: at %d of a list that was handed in stands %s now", what, j, short(x))
			}
		}
	}
}

// listsOf are pointers to all lists of an item.
func listsOf(x *api.Item) (rows []*[]byte, lists []*[]api.Item) {
	rows, lists = append(rows, &x.Bytes), append(lists, &x.Items)
	for i := range x.Items {
		r, l := listsOf(&x.Items[i])
		rows, lists = append(rows, r...), append(lists, l...)
	}
	return rows, lists
}

// spoil lays other bytes over each list of an answer, up to the end of its room, one by one, and holds each other one against what it was.
func spoil(t *testing.T, what string, x api.Item) {
	t.Helper()
	was := deep(x)
	rows, lists := listsOf(&x)
	wasRows, wasLists := listsOf(&was)
	for i, b := range rows {
		all := (*b)[:cap(*b)]
		for j := range all {
			all[j] ^= 0xff
		}
		for j := range *wasRows[i] {
			(*wasRows[i])[j] ^= 0xff
		}
		if !alike(x, was) {
			t.Errorf("%s: two lists of the answer share bytes", what)
		}
	}
	for i := len(lists) - 1; i >= 0; i-- {
		clear((*lists[i])[:cap(*lists[i])])
		clear(*wasLists[i])
		if !alike(x, was) {
			t.Errorf("%s: two lists of the answer share items", what)
		}
	}
}

// R3: Bytes and List keep nothing of what they are handed, and what they answer is new memory.
func TestMadeSharesNothing(t *testing.T) {
	for what, call := range map[string]func(x api.Item) api.Item{
		"List of one":      func(x api.Item) api.Item { return cbor.List(x) },
		"List of the same": func(x api.Item) api.Item { return cbor.List(x, x) },
		"List of Items":    func(x api.Item) api.Item { return cbor.List(x.Items...) },
		"List of a few":    func(x api.Item) api.Item { return cbor.List(x.Items[:2]...) },
		"List of none":     func(x api.Item) api.Item { return cbor.List(x.Items[:0]...) },
		"Bytes":            func(x api.Item) api.Item { return cbor.Bytes(x.Items[2].Bytes) },
		"Bytes of none":    func(x api.Item) api.Item { return cbor.Bytes(x.Items[2].Bytes[:0]) },
		"List of Bytes":    func(x api.Item) api.Item { return cbor.List(cbor.Bytes(x.Items[2].Bytes), x.Items[2]) },
	} {
		x, lists, b := roomy()
		got, again := call(x), call(x)
		want := deep(again)
		if !alike(got, want) {
			t.Errorf("%s: %s, then %s", what, short(got), short(want))
		}
		untouched(t, what, lists, b)
		spoil(t, what, got)
		untouched(t, what+", the answer spoilt", lists, b)
		if !alike(again, want) {
			t.Errorf("%s: two answers share memory", what)
		}
		clear(b)
		for _, l := range lists {
			clear(l)
		}
		if !alike(again, want) {
			t.Errorf("%s: the answer changes with what was handed in", what)
		}
	}
}

// R3: Check, Same and Encode change nothing of what they are handed; the bytes are new memory.
func TestEncodeSharesNothing(t *testing.T) {
	x, lists, b := roomy()
	for _, y := range append(slices.Clone(x.Items), x) {
		cbor.Check(y)
		cbor.Same(y, x)
		got, _ := cbor.Encode(y)
		again, _ := cbor.Encode(y)
		if !bytes.Equal(got, plain(y)) || !bytes.Equal(again, got) {
			t.Errorf("Encode of %s: %s", short(y), cut(got))
		}
		clear(got[:cap(got)])
		if !bytes.Equal(again, plain(y)) {
			t.Error("two answers of Encode share memory")
		}
		untouched(t, "Encode", lists, b)
	}
	clear(b)
	again, _ := cbor.Encode(x)
	if bytes.Equal(again, nil) || !bytes.Equal(again, plain(x)) {
		t.Errorf("Encode behind a change: %s", cut(again))
	}
}

// R3: Decode changes nothing of the bytes that it is handed, the room behind them neither, and keeps none of them.
func TestDecodeSharesNothing(t *testing.T) {
	x, _, _ := roomy()
	for _, y := range append(slices.Clone(x.Items), x, within(3, raw(1, 2)), list(text("a"), text("b"), raw())) {
		bytesOf := plain(y)
		room := slices.Concat([]byte{9, 9}, bytesOf, bytes.Repeat([]byte{0xee}, 40))
		was := slices.Clone(room)
		in := room[2 : 2+len(bytesOf)]
		got, _, e := cbor.Decode(in)
		again, _, _ := cbor.Decode(in)
		if e != api.OK || !alike(got, y) {
			t.Fatalf("Decode %s: %s, error %d", cut(in), short(got), e)
		}
		spoil(t, "Decode", got)
		if !bytes.Equal(room, was) {
			t.Errorf("Decode %s: the bytes are % x now", cut(in), room)
		}
		if !alike(again, y) {
			t.Errorf("Decode %s: two answers share memory", cut(in))
		}
		clear(room)
		if !alike(again, y) {
			t.Errorf("Decode %s: the answer changes with the bytes", cut(was))
		}
		for n := range bytesOf {
			copy(room, was)
			refuses(t, "cut off, the rest in the room behind", room[2:2+n], api.ErrShort)
			if !bytes.Equal(room, was) {
				t.Errorf("Decode of %d bytes: they are % x now", n, room)
			}
		}
	}
}

// R3, R5: an item that was told has zeros in each field to which the chapter gives no meaning, and is the same each time.
func TestDecodeLeavesOtherFieldsZero(t *testing.T) {
	d := dice(11)
	for range 500 {
		b := plain(d.item(api.MaxDeep))
		x, n, _ := cbor.Decode(b)
		y, m, _ := cbor.Decode(b)
		if n != m || !alike(x, y) {
			t.Fatalf("Decode %s: twice, and not the same", cut(b))
		}
		onlyItsOwn(t, x)
	}
}

func onlyItsOwn(t *testing.T, x api.Item) {
	t.Helper()
	if x.Kind != 1 && x.Num != 0 || (x.Kind == 1 || x.Kind == 4) && len(x.Bytes) > 0 || x.Kind != 4 && len(x.Items) > 0 {
		t.Errorf("an item with other fields than its own: %s", short(x))
	}
	for _, y := range x.Items {
		onlyItsOwn(t, y)
	}
}
