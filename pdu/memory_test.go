package pdu_test

import (
	"bytes"
	"slices"
	"testing"

	"heliograph/api"
	"heliograph/pdu"
)

// roomy are messages whose Bytes have something ahead of them, and behind their end, and all of that.
func roomy(n int) ([]api.Message, []byte) {
	room := bytes.Repeat([]byte{0xee}, n+60)
	copy(room[10:], fill(6, n))
	l := []api.Message{data(), topic(), command(), receipt()}
	for i := range l {
		l[i].Bytes = room[10 : 10+n]
	}
	return l, room
}

// R3: no call changes the list that it is handed, the room behind its end neither.
func TestCallsLeaveWhatTheyAreHanded(t *testing.T) {
	for _, n := range []int{0, 1, 2, 19, 40, 255, 256, 257} {
		l, room := roomy(n)
		was := slices.Clone(room)
		for _, m := range l {
			pdu.Check(m)
			pdu.Same(m, m)
			pdu.Same(m, data())
			pdu.Same(topic(), m)
			pdu.Encode(m)
			m.Kind = 3
			pdu.Check(m)
			pdu.Encode(m)
		}
		if !bytes.Equal(room, was) {
			t.Errorf("%d: what was handed in is %s now", n, cut(room))
		}
	}
}

// R3, R5: what Encode answers is new memory, and the same each time.
func TestEncodeSharesNothing(t *testing.T) {
	for _, n := range []int{1, 2, 40, 255, 256} {
		l, room := roomy(n)
		was := slices.Clone(room)
		for _, m := range l {
			want := plain(m)
			one, _ := pdu.Encode(m)
			two, _ := pdu.Encode(m)
			if !bytes.Equal(one, want) || !bytes.Equal(two, want) {
				t.Fatalf("%d: Encode: %s, then %s", n, cut(one), cut(two))
			}
			clear(one[:cap(one)])
			if !bytes.Equal(room, was) || !bytes.Equal(two, want) {
				t.Errorf("%d: the answer shares memory", n)
			}
			m.Bytes[0]++
			if !bytes.Equal(two, want) {
				t.Errorf("%d: the answer changes with the message", n)
			}
			if again, _ := pdu.Encode(m); bytes.Equal(again, want) || !bytes.Equal(again, plain(m)) {
				t.Errorf("%d: Encode behind a change: %s", n, cut(again))
			}
			copy(room, was)
		}
	}
}

// R3, R5: Decode changes nothing of the bytes that it is handed, keeps none, and answers new memory, the same each time.
func TestDecodeSharesNothing(t *testing.T) {
	for _, m := range slices.Concat(kinds(), greatest(), least()) {
		b := plain(m)
		room := slices.Concat([]byte{9, 9}, b, bytes.Repeat([]byte{0xee}, 40))
		was := slices.Clone(room)
		in := room[2 : 2+len(b)]
		one, _ := pdu.Decode(in)
		two, _ := pdu.Decode(in)
		if !alike(one, m) || !alike(two, m) {
			t.Fatalf("Decode %s: %v, then %v", cut(in), one, two)
		}
		_ = append(one.Bytes, 1, 2, 3, 4, 5, 6, 7, 8)
		clear(one.Bytes[:cap(one.Bytes)])
		if !bytes.Equal(room, was) || !alike(two, m) {
			t.Errorf("Decode %s: the answer shares memory", cut(in))
		}
		clear(room)
		if !alike(two, m) {
			t.Errorf("Decode %s: the answer changes with the bytes", cut(was))
		}
	}
}

// R2, R3: a refusal changes nothing either, whichever it is.
func TestRefusedBytesStayAsTheyWere(t *testing.T) {
	b := plain(topic())
	for what, row := range map[string][]byte{"none": {}, "too few": b[:len(b)-1], "no Kind": append([]byte{9}, b...), "too many": append(slices.Clone(b), 1), "Number 0": {6, 0, 0, 0, 0, 1, 'a'}} {
		room := slices.Concat(row, bytes.Repeat([]byte{0xee}, 30))
		was := slices.Clone(room)
		if m, e := pdu.Decode(room[:len(row)]); e == api.OK || !alike(m, api.Message{}) {
			t.Errorf("%s: Decode: %v, error %d", what, m, e)
		}
		if !bytes.Equal(room, was) {
			t.Errorf("%s: the bytes are % x now", what, room)
		}
	}
}
