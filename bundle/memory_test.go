package bundle_test

import (
	"bytes"
	"slices"
	"testing"

	"heliograph/api"
	"heliograph/bundle"
)

// roomy is a bundle whose payload has other bytes ahead of it, and room behind its end, in which something stands; and all of these bytes.
func roomy(n int) (api.Bundle, []byte) {
	room := bytes.Repeat([]byte{0xee}, n+60)
	copy(room[10:], fill(6, n))
	b := unlike()
	b.Offset, b.Total, b.Payload = 0, 400, room[10:10+n]
	return b, room
}

// R3: no call changes the payload that it is handed, the room behind its end neither.
func TestCallsLeaveWhatTheyAreHanded(t *testing.T) {
	for _, n := range []int{0, 1, 2, 23, 40, 400} {
		b, room := roomy(n)
		was := slices.Clone(room)
		bundle.Check(b)
		bundle.Same(b, b)
		bundle.Same(b, example())
		bundle.Id(b)
		bundle.Whole(b)
		bundle.Expired(b, 5)
		bundle.Size(b)
		bundle.Encode(b)
		if !bytes.Equal(room, was) {
			t.Errorf("%d bytes: the payload that was handed in is % x now", n, room)
		}
	}
}

// R3, R5: what Encode answers is new memory, and the same each time.
func TestEncodeSharesNothing(t *testing.T) {
	for _, n := range []int{1, 2, 23, 40, 400} {
		b, room := roomy(n)
		was, want := slices.Clone(room), plain(b)
		one, _ := bundle.Encode(b)
		two, _ := bundle.Encode(b)
		if !bytes.Equal(one, want) || !bytes.Equal(two, want) {
			t.Fatalf("%d bytes: Encode: %s, then %s", n, cut(one), cut(two))
		}
		clear(one[:cap(one)])
		if !bytes.Equal(room, was) || !bytes.Equal(two, want) {
			t.Errorf("%d bytes: the answer shares memory", n)
		}
		clear(room)
		if !bytes.Equal(two, want) {
			t.Errorf("%d bytes: the answer changes with the payload", n)
		}
		if again, _ := bundle.Encode(b); bytes.Equal(again, want) || !bytes.Equal(again, plain(b)) {
			t.Errorf("%d bytes: Encode behind a change of the payload: %s", n, cut(again))
		}
	}
}

// R3: Decode changes nothing of the bytes that it is handed, keeps none, and answers new memory.
func TestDecodeSharesNothing(t *testing.T) {
	for _, b := range []api.Bundle{example(), unlike(), greatest(), least()} {
		x := plain(b)
		room := slices.Concat([]byte{9, 9}, x, bytes.Repeat([]byte{0xee}, 40))
		was := slices.Clone(room)
		in := room[2 : 2+len(x)]
		one, _ := bundle.Decode(in)
		two, _ := bundle.Decode(in)
		if !alike(one, b) || !alike(two, b) {
			t.Fatalf("Decode %s: %v, then %v", cut(in), one, two)
		}
		_ = append(one.Payload, 1, 2, 3, 4, 5, 6, 7, 8)
		clear(one.Payload[:cap(one.Payload)])
		if !bytes.Equal(room, was) || !alike(two, b) {
			t.Errorf("Decode %s: the answer shares memory", cut(in))
		}
		clear(room)
		if !alike(two, b) {
			t.Errorf("Decode %s: the answer changes with the bytes", cut(was))
		}
	}
}

// R2, R3: a refusal changes nothing either, whichever it is.
func TestRefusedBytesStayAsTheyWere(t *testing.T) {
	x := plain(unlike())
	sum, inside := slices.Clone(x), packed(numbers(make([]uint64, 10)...), 0, []byte{1})
	sum[len(sum)-1] ^= 1
	for what, row := range map[string][]byte{"no item": x[:len(x)-1], "a wrong sum": sum, "no bundle's": inside} {
		room := slices.Concat(row, bytes.Repeat([]byte{0xee}, 30))
		was := slices.Clone(room)
		if b, e := bundle.Decode(room[:len(row)]); e == api.OK || !alike(b, api.Bundle{}) {
			t.Errorf("%s: Decode: %v, error %d", what, b, e)
		}
		if !bytes.Equal(room, was) {
			t.Errorf("%s: the bytes are % x now", what, room)
		}
	}
}
