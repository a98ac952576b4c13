package pdu_test

import (
	"bytes"
	"fmt"
	"slices"
	"testing"

	"heliograph/api"
	"heliograph/pdu"
)

// encodes asks for bytes.
func encodes(t *testing.T, what string, m api.Message, want []byte) {
	t.Helper()
	got, e := pdu.Encode(m)
	if e != api.OK || !bytes.Equal(got, want) {
		t.Errorf("%s: Encode: %s, error %d; want %s", what, cut(got), e, cut(want))
	}
}

// known are bytes that were written by hand, the chapter's examples among them.
func known() map[string]struct {
	m api.Message
	b []byte
} {
	return map[string]struct {
		m api.Message
		b []byte
	}{
		"the first example":     {api.Message{Kind: 1, Number: 1, Name: "a", Size: 5}, []byte{1, 0, 0, 0, 1, 1, 0x61, 0, 5}},
		"the second example":    {api.Message{Kind: 2, Number: 2, Offset: 1, Bytes: []byte{7}}, []byte{2, 0, 0, 0, 2, 0, 1, 0, 1, 7}},
		"the third example":     {api.Message{Kind: 4, Number: 3, Code: 1}, []byte{4, 0, 0, 0, 3, 1}},
		"a file":                {meta(), []byte{1, 1, 2, 3, 4, 4, 'f', 'i', 'l', 'e', 5, 6}},
		"the greatest Size":     {api.Message{Kind: 1, Number: 9, Name: "xy", Size: 4096}, []byte{1, 0, 0, 0, 9, 2, 'x', 'y', 0x10, 0}},
		"the end of a file":     {end(), []byte{3, 0, 0, 1, 0x2C, 0x0A, 0x0B, 0xC1, 0xC2, 0xC3, 0xC4}},
		"the end of an empty":   {api.Message{Kind: 3, Number: 1}, []byte{3, 0, 0, 0, 1, 0, 0, 0, 0, 0, 0}},
		"the greatest Offset":   {api.Message{Kind: 2, Number: 1, Offset: 4095, Bytes: []byte{9}}, []byte{2, 0, 0, 0, 1, 0x0F, 0xFF, 0, 1, 9}},
		"a great Number":        {done(), []byte{4, 0x80, 0, 0, 1, 200}},
		"a publication":         {api.Message{Kind: 5, Number: 4, Name: "k", Bytes: []byte{1, 2}}, []byte{5, 0, 0, 0, 4, 1, 'k', 0, 2, 1, 2}},
		"one without Bytes":     {api.Message{Kind: 5, Number: 4, Name: "k"}, []byte{5, 0, 0, 0, 4, 1, 'k', 0, 0}},
		"a subscription":        {api.Message{Kind: 6, Number: 1, Name: "ab"}, []byte{6, 0, 0, 0, 1, 2, 'a', 'b'}},
		"a command":             {api.Message{Kind: 7, Number: 2, Bytes: []byte{2, 98}}, []byte{7, 0, 0, 0, 2, 0, 2, 2, 98}},
		"an empty command":      {api.Message{Kind: 7, Number: 2}, []byte{7, 0, 0, 0, 2, 0, 0}},
		"a receipt":             {api.Message{Kind: 8, Number: 2, Code: 255, Bytes: []byte{7, 0, 8}}, []byte{8, 0, 0, 0, 2, 255, 0, 3, 7, 0, 8}},
		"a receipt and no more": {api.Message{Kind: 8, Number: 2, Code: 4}, []byte{8, 0, 0, 0, 2, 4, 0, 0}},
		"the most Bytes":        {api.Message{Kind: 7, Number: 2, Bytes: fill(1, 256)}, slices.Concat([]byte{7, 0, 0, 0, 2, 1, 0}, fill(1, 256))},
	}
}

// P11.2.
func TestEncodeOfKnownMessages(t *testing.T) {
	for what, r := range known() {
		encodes(t, what, r.m, r.b)
	}
}

// P11.2: the bytes of messages that may be, as the chapter's words say them.
func TestEncodeOfRightMessages(t *testing.T) {
	for _, m := range right() {
		encodes(t, fmt.Sprint("Kind ", m.Kind), m, plain(m))
	}
}

// P11.2: Bytes and names of each length.
func TestEncodeOfEachLength(t *testing.T) {
	all := fill(7, 256)
	for n := range 257 {
		for _, m := range []api.Message{data(), topic(), command(), receipt()} {
			if n == 0 && m.Kind == 2 {
				continue
			}
			m.Bytes = all[:n]
			encodes(t, fmt.Sprint("Kind ", m.Kind, ", Bytes ", n), m, plain(m))
		}
	}
	for n := 1; n <= 24; n++ {
		for _, m := range []api.Message{meta(), topic(), subscribe()} {
			m.Name = text(n)
			encodes(t, fmt.Sprint("Kind ", m.Kind, ", a Name of ", n), m, plain(m))
		}
	}
}

// P11.2, R2: what may not be has no bytes.
func TestEncodeOfWrongMessages(t *testing.T) {
	not := 0
	variants(func(what string, m api.Message) {
		if may(m) {
			encodes(t, what, m, plain(m))
			return
		}
		not++
		b, e := pdu.Encode(m)
		if e != api.ErrMessage || len(b) != 0 {
			t.Errorf("%s: Encode: %s, error %d; want nothing, ErrMessage", what, cut(b), e)
		}
	})
	if not < 6000 {
		t.Errorf("only %d messages may not be", not)
	}
}
