package segment_test

import (
	"bytes"
	"fmt"
	"testing"

	"heliograph/api"
	"heliograph/segment"
)

// encodes asks for bytes, and that Size tells how many they are.
func encodes(t *testing.T, what string, s api.Segment, want []byte) {
	t.Helper()
	got, e := segment.Encode(s)
	if e != api.OK || !bytes.Equal(got, want) {
		t.Errorf("%s: Encode: %s, error %d; want %s", what, cut(got), e, cut(want))
	}
	if n := segment.Size(s); n != len(want) {
		t.Errorf("%s: Size: %d, want %d", what, n, len(want))
	}
}

// P10.2: bytes that were written by hand, the chapter's examples among them.
func TestEncodeOfKnownSegments(t *testing.T) {
	for what, r := range map[string]struct {
		s    api.Segment
		bare []byte
	}{
		"the first example":  {ack(), []byte{3, 2, 3, 0x82, 0x2C}},
		"the second example": {plainData(), []byte{1, 1, 1, 0, 0, 2, 2, 7, 8}},
		"a checkpoint":       {api.Segment{Kind: 1, Source: 2, Session: 3, Offset: 128, Total: 512, Check: true, Serial: 300, Data: []byte{9}}, []byte{1, 2, 3, 1, 0x82, 0x2C, 0x81, 0, 0x84, 0, 1, 9}},
		"a report":           {report(), []byte{2, 4, 0x81, 1, 0x81, 0x80, 0, 0x83, 0x74, 7, 0x83, 0x10, 3, 9, 3, 0x81, 0x16, 0x81, 0x48, 0x82, 0x5F, 49}},
		"without claims":     {api.Segment{Kind: 2, Source: 1, Session: 2, Serial: 3, Checks: 4, Lower: 5, Upper: 6}, []byte{2, 1, 2, 3, 4, 5, 6, 0}},
		"given up":           {cancel(), []byte{4, 3, 9, 0x81, 0x48}},
		"its answer":         {cancelAck(), []byte{5, 3, 0x87, 0x68}},
		"stopped":            {stop(), []byte{6, 6, 0x81, 0, 4}},
		"the answer to that": {stopAck(), []byte{7, 1, 0x7F}},
	} {
		encodes(t, what, r.s, sealed(r.bare))
	}
}

// P10.2: the checksum stands behind all, the highest byte first; the sums are written out.
func TestEncodeOfTheSum(t *testing.T) {
	encodes(t, "an answer", api.Segment{Kind: 5, Source: 1, Session: 1}, []byte{5, 1, 1, 0xBA, 0x32, 0x8E, 0x6A})
	encodes(t, "the first example", ack(), []byte{3, 2, 3, 0x82, 0x2C, 0xE9, 0x70, 0xAE, 0x2A})
}

// P10.2: the bytes of segments that may be, as the chapter's words say them.
func TestEncodeOfRightSegments(t *testing.T) {
	for _, s := range right() {
		encodes(t, fmt.Sprint("Kind ", s.Kind), s, plain(s))
	}
}

// P10.2: Data of each length, with and without Check, at both ends of a block.
func TestEncodeOfEachLength(t *testing.T) {
	all := fill(7, 100)
	for n := 1; n <= 100; n++ {
		for _, r := range [][2]int{{0, n}, {0, 512}, {512 - n, 512}} {
			s := plainData()
			s.Offset, s.Total, s.Data = r[0], r[1], all[:n]
			encodes(t, "Data", s, plain(s))
			s.Check, s.Serial = true, 16383
			encodes(t, "Data and Check", s, plain(s))
		}
	}
}

// P10.2: reports of each number of claims.
func TestEncodeOfEachNumberOfClaims(t *testing.T) {
	for n := range 21 {
		s := greatestReport()
		s.Claims = s.Claims[:n]
		encodes(t, fmt.Sprint(n, " claims"), s, plain(s))
	}
}

// P10.2, R2: what may not be has no bytes.
func TestEncodeOfWrongSegments(t *testing.T) {
	variants(func(what string, s api.Segment) {
		if may(s) {
			encodes(t, what, s, plain(s))
			return
		}
		b, e := segment.Encode(s)
		if e != api.ErrSegment || len(b) != 0 {
			t.Errorf("%s: Encode: %s, error %d; want nothing, ErrSegment", what, cut(b), e)
		}
		if n := segment.Size(s); n != 0 {
			t.Errorf("%s: Size: %d, want 0", what, n)
		}
	})
}
