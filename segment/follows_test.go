package segment_test

import (
	"bytes"
	"fmt"
	"testing"

	"heliograph/api"
	"heliograph/segment"
)

func encoded(t *testing.T, s api.Segment) []byte {
	t.Helper()
	b, e := segment.Encode(s)
	if e != api.OK {
		t.Fatalf("Encode of %v: error %d", s, e)
	}
	return b
}

// P10.4: Decode of Encode is the segment.
func TestDecodeOfEncode(t *testing.T) {
	for _, s := range right() {
		b := encoded(t, s)
		decodes(t, "encoded", b, s)
		if c, _ := segment.Decode(b); !segment.Same(c, s) || segment.Check(c) != api.OK {
			t.Errorf("%v: not the same behind Encode and Decode", s)
		}
	}
}

// P10.4: Encode of what Decode told are the bytes.
func TestEncodeOfDecode(t *testing.T) {
	told := 0
	asks := func(b []byte) {
		t.Helper()
		s, e := segment.Decode(b)
		if e != api.OK {
			return
		}
		told++
		if segment.Check(s) != api.OK || !bytes.Equal(encoded(t, s), b) || segment.Size(s) != len(b) {
			t.Errorf("Decode %s: %v, which has other bytes", cut(b), s)
		}
	}
	d := dice(4)
	for range 3000 {
		b := bare(d.segment())
		asks(sealed(b))
		for i := range 8 * min(len(b), 16) {
			b[i/8] ^= 1 << (i % 8)
			asks(sealed(b))
			b[i/8] ^= 1 << (i % 8)
		}
	}
	if told < 30000 {
		t.Errorf("only %d of all rows were told", told)
	}
}

// P10.4: with one bit turned they are no segment.
func TestOneBitTurned(t *testing.T) {
	for _, s := range append(kinds(), greatestData(), greatestReport(), highReport()) {
		b := encoded(t, s)
		for i := range 8 * len(b) {
			b[i/8] ^= 1 << (i % 8)
			refuses(t, fmt.Sprintf("Kind %d, bit %d of byte %d turned", s.Kind, i%8, i/8), b, api.ErrSum)
			b[i/8] ^= 1 << (i % 8)
		}
		decodes(t, "all bits turned back", b, s)
	}
}

// P10.4: the greatest segments have at most 130 bytes.
func TestBytesAreAtMostSoMany(t *testing.T) {
	for _, r := range []struct {
		what string
		s    api.Segment
		n    int
	}{{"data", greatestData(), 122}, {"a report", greatestReport(), 87}, {"a report from 128 on", highReport(), 88}, {"the least", api.Segment{Kind: 5, Source: 1, Session: 1}, 7}} {
		if n := len(encoded(t, r.s)); n != r.n || segment.Size(r.s) != r.n {
			t.Errorf("%s has %d bytes, want %d", r.what, n, r.n)
		}
	}
	most := 0
	for _, s := range right() {
		most = max(most, segment.Size(s))
	}
	if most != 122 {
		t.Errorf("a segment has %d bytes", most)
	}
}

// P10.4: segments that are not the same have other bytes.
func TestUnlikeSegmentsHaveUnlikeBytes(t *testing.T) {
	rows := map[string]api.Segment{}
	for _, s := range right() {
		b := string(encoded(t, s))
		if c, there := rows[b]; there && !alike(s, c) {
			t.Errorf("%v and %v have the same bytes", s, c)
		}
		rows[b] = s
	}
	if len(rows) < 500 {
		t.Errorf("only %d rows of bytes", len(rows))
	}
}
