package segment_test

import (
	"bytes"
	"slices"
	"testing"

	"heliograph/api"
	"heliograph/segment"
)

// roomy are segments whose lists have something ahead of them, and behind their end, and all of that.
func roomy(n int) (d, r api.Segment, room []byte, rows []api.Claim) {
	room = bytes.Repeat([]byte{0xee}, n+60)
	copy(room[10:], fill(6, n))
	d = data()
	d.Data = room[10 : 10+n]
	for i := range 30 {
		rows = append(rows, api.Claim{At: 8 + 3*i, N: 2})
	}
	r = report()
	r.Claims = rows[3 : 3+min(n, 20)]
	return d, r, room, rows
}

// R3: no call changes the lists that it is handed, the room behind their end neither.
func TestCallsLeaveWhatTheyAreHanded(t *testing.T) {
	for _, n := range []int{0, 1, 2, 19, 20, 40, 100} {
		d, r, room, rows := roomy(n)
		wasRoom, wasRows := slices.Clone(room), slices.Clone(rows)
		for _, s := range []api.Segment{d, r} {
			segment.Check(s)
			segment.Same(s, s)
			segment.Same(s, data())
			segment.Same(report(), s)
			segment.Forward(s)
			segment.Size(s)
			segment.Encode(s)
			s.Kind = 3
			segment.Check(s)
			segment.Encode(s)
		}
		if !bytes.Equal(room, wasRoom) || !slices.Equal(rows, wasRows) {
			t.Errorf("%d: what was handed in is % x, %v now", n, room, rows)
		}
	}
}

// R3, R5: what Encode answers is new memory, and the same each time.
func TestEncodeSharesNothing(t *testing.T) {
	for _, n := range []int{1, 2, 20, 40, 100} {
		d, r, room, rows := roomy(n)
		wasRoom, wasRows := slices.Clone(room), slices.Clone(rows)
		for _, s := range []api.Segment{d, r} {
			want := plain(s)
			one, _ := segment.Encode(s)
			two, _ := segment.Encode(s)
			if !bytes.Equal(one, want) || !bytes.Equal(two, want) {
				t.Fatalf("%d: Encode: %s, then %s", n, cut(one), cut(two))
			}
			clear(one[:cap(one)])
			if !bytes.Equal(room, wasRoom) || !slices.Equal(rows, wasRows) || !bytes.Equal(two, want) {
				t.Errorf("%d: the answer shares memory", n)
			}
			if len(s.Data) > 0 {
				s.Data[0]++
			} else {
				s.Claims[len(s.Claims)-1].N--
			}
			if !bytes.Equal(two, want) {
				t.Errorf("%d: the answer changes with the segment", n)
			}
			if again, _ := segment.Encode(s); bytes.Equal(again, want) || !bytes.Equal(again, plain(s)) {
				t.Errorf("%d: Encode behind a change: %s", n, cut(again))
			}
			copy(room, wasRoom)
			copy(rows, wasRows)
		}
	}
}

// R3: Decode changes nothing of the bytes that it is handed, keeps none, and answers new memory.
func TestDecodeSharesNothing(t *testing.T) {
	for _, s := range append(kinds(), greatestData(), greatestReport()) {
		b := plain(s)
		room := slices.Concat([]byte{9, 9}, b, bytes.Repeat([]byte{0xee}, 40))
		was := slices.Clone(room)
		in := room[2 : 2+len(b)]
		one, _ := segment.Decode(in)
		two, _ := segment.Decode(in)
		if !alike(one, s) || !alike(two, s) {
			t.Fatalf("Decode %s: %v, then %v", cut(in), one, two)
		}
		_ = append(one.Data, 1, 2, 3, 4, 5, 6, 7, 8)
		clear(one.Data[:cap(one.Data)])
		clear(one.Claims[:cap(one.Claims)])
		if !bytes.Equal(room, was) || !alike(two, s) {
			t.Errorf("Decode %s: the answer shares memory", cut(in))
		}
		clear(room)
		if !alike(two, s) {
			t.Errorf("Decode %s: the answer changes with the bytes", cut(was))
		}
	}
}

// R2, R3: a refusal changes nothing either, whichever it is.
func TestRefusedBytesStayAsTheyWere(t *testing.T) {
	b := plain(data())
	wrong := slices.Clone(b)
	wrong[len(wrong)-1] ^= 1
	for what, row := range map[string][]byte{"too few": b[:6], "a wrong sum": wrong, "no segment's": sealed(append(bare(data()), 0)), "fields that may not be": sealed([]byte{1, 1, 1, 0, 0, 1, 2, 9, 9})} {
		room := slices.Concat(row, bytes.Repeat([]byte{0xee}, 30))
		was := slices.Clone(room)
		if s, e := segment.Decode(room[:len(row)]); e == api.OK || !alike(s, api.Segment{}) {
			t.Errorf("%s: Decode: %v, error %d", what, s, e)
		}
		if !bytes.Equal(room, was) {
			t.Errorf("%s: the bytes are % x now", what, room)
		}
	}
}
