package pdu_test

import (
	"bytes"
	"testing"

	"heliograph/api"
	"heliograph/pdu"
)

func encoded(t *testing.T, m api.Message) []byte {
	t.Helper()
	b, e := pdu.Encode(m)
	if e != api.OK {
		t.Fatalf("Encode of %v: error %d", m, e)
	}
	return b
}

// P11.3: Decode of Encode is the message.
func TestDecodeOfEncode(t *testing.T) {
	for _, m := range right() {
		b := encoded(t, m)
		decodes(t, "encoded", b, m)
		if c, _ := pdu.Decode(b); !pdu.Same(c, m) || pdu.Check(c) != api.OK {
			t.Errorf("%v: not the same behind Encode and Decode", m)
		}
	}
}

// P11.3: Encode of what Decode told are the bytes.
func TestEncodeOfDecode(t *testing.T) {
	told := 0
	asks := func(b []byte) {
		t.Helper()
		m, e := pdu.Decode(b)
		if e != api.OK {
			return
		}
		told++
		if pdu.Check(m) != api.OK || !bytes.Equal(encoded(t, m), b) {
			t.Errorf("Decode %s: %v, which has other bytes", cut(b), m)
		}
	}
	d := dice(4)
	for range 2000 {
		b := plain(d.message())
		asks(b)
		for i := range 8 * min(len(b), 16) {
			b[i/8] ^= 1 << (i % 8)
			asks(b)
			b[i/8] ^= 1 << (i % 8)
		}
	}
	if told < 30000 {
		t.Errorf("only %d of all rows were told", told)
	}
}

// P11.3: each beginning of a message's bytes is ErrShort, also none of them.
func TestEachBeginningIsShort(t *testing.T) {
	for _, m := range right() {
		b := encoded(t, m)
		for n := range len(b) {
			if c, e := pdu.Decode(b[:n]); e != api.ErrShort || !alike(c, api.Message{}) {
				t.Errorf("%d of the %d bytes of Kind %d: %v, error %d", n, len(b), m.Kind, c, e)
			}
		}
	}
}

// P11.3: how many bytes the greatest and the least messages have; none has more than MaxPayload.
func TestBytesAreAtMostSoMany(t *testing.T) {
	most, fewest := []int{32, 265, 11, 6, 288, 30, 263, 264}, []int{9, 10, 11, 6, 9, 7, 7, 8}
	for i := range 8 {
		if n := len(encoded(t, greatest()[i])); n != most[i] {
			t.Errorf("the greatest of Kind %d has %d bytes, want %d", i+1, n, most[i])
		}
		if n := len(encoded(t, least()[i])); n != fewest[i] {
			t.Errorf("the least of Kind %d has %d bytes, want %d", i+1, n, fewest[i])
		}
	}
	for _, m := range right() {
		if n := len(encoded(t, m)); n > most[m.Kind-1] || n < fewest[m.Kind-1] || n > api.MaxPayload {
			t.Errorf("a message of Kind %d has %d bytes", m.Kind, n)
		}
	}
}

// P11.3: messages that are not the same have other bytes, and none are the beginning of another one's.
func TestUnlikeMessagesHaveUnlikeBytes(t *testing.T) {
	rows := map[string]api.Message{}
	for _, m := range right() {
		b := string(encoded(t, m))
		if c, there := rows[b]; there && !alike(m, c) {
			t.Errorf("%v and %v have the same bytes", m, c)
		}
		rows[b] = m
	}
	if len(rows) < 500 {
		t.Errorf("only %d rows of bytes", len(rows))
	}
	for b, m := range rows {
		for n := range len(b) {
			if c, there := rows[b[:n]]; there {
				t.Errorf("%v begins as %v", m, c)
			}
		}
	}
}
