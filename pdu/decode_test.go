package pdu_test

import (
	"bytes"
	"encoding/binary"
	"fmt"
	"slices"
	"testing"

	"heliograph/api"
)

// P11.2: bytes that were written by hand.
func TestDecodeOfKnownMessages(t *testing.T) {
	for what, r := range known() {
		decodes(t, what, r.b, r.m)
	}
	refuses(t, "the first wrong example", []byte{9}, api.ErrMessage)
	refuses(t, "the first wrong example, and more", []byte{9, 0, 0, 0, 1, 1}, api.ErrMessage)
	refuses(t, "the second wrong example", []byte{1, 0}, api.ErrShort)
	refuses(t, "no bytes", nil, api.ErrShort)
	refuses(t, "an empty list", []byte{}, api.ErrShort)
}

// P11.2: a first byte that is no Kind goes ahead of all else, however many bytes there are behind it.
func TestDecodeOfTheFirstByte(t *testing.T) {
	for kind := range 256 {
		isKind := kind >= 1 && kind <= 8
		for n := range 12 {
			for _, x := range []byte{0, 1, 255} {
				b := append([]byte{byte(kind)}, bytes.Repeat([]byte{x}, n)...)
				if isKind {
					asTold(t, fmt.Sprint("Kind ", kind), b)
				} else {
					refuses(t, fmt.Sprint("Kind ", kind), b, api.ErrMessage)
				}
			}
		}
		if isKind {
			refuses(t, "a Kind alone", []byte{byte(kind)}, api.ErrShort)
		}
		for _, m := range kinds() {
			b := plain(m)
			b[0] = byte(kind)
			if e := asTold(t, fmt.Sprint("Kind ", kind, " with the fields of ", m.Kind), b); !isKind && e != api.ErrMessage {
				t.Errorf("Kind %d: error %d", kind, e)
			}
		}
	}
}

// P11.2, P11.3: each beginning is ErrShort, of those that may be and of those that may not.
func TestDecodeOfBeginnings(t *testing.T) {
	for _, m := range slices.Concat(kinds(), greatest(), least()) {
		b := plain(m)
		decodes(t, "all of it", b, m)
		wrong := m
		wrong.Number = 0
		for n := range len(b) {
			refuses(t, fmt.Sprint("Kind ", m.Kind, ", a beginning"), b[:n], api.ErrShort)
			refuses(t, fmt.Sprint("Kind ", m.Kind, ", a beginning with the Number 0"), plain(wrong)[:n], api.ErrShort)
		}
		refuses(t, fmt.Sprint("Kind ", m.Kind, ", the Number 0"), plain(wrong), api.ErrMessage)
	}
}

// P11.2: bytes behind the end.
func TestDecodeOfBytesBehind(t *testing.T) {
	for _, m := range slices.Concat(kinds(), greatest(), least()) {
		b := plain(m)
		for x := range 256 {
			refuses(t, fmt.Sprint("Kind ", m.Kind, ", a byte behind"), append(slices.Clone(b), byte(x)), api.ErrMessage)
		}
		refuses(t, "twice", slices.Concat(b, b), api.ErrMessage)
		refuses(t, "many bytes behind", slices.Concat(b, fill(1, 70000)), api.ErrMessage)
		refuses(t, "ahead a nought", slices.Concat([]byte{0}, b), api.ErrMessage)
	}
}

// P11.2: right in their form, and all there, but of a message that may not be; a byte less is ErrShort, whatever is wrong besides.
func TestDecodeOfWrongFields(t *testing.T) {
	zeros := func(n int) []byte { return make([]byte, n) }
	for what, b := range map[string][]byte{
		"Number 0":                   {6, 0, 0, 0, 0, 1, 'a'},
		"Number 0 of MsgDone":        {4, 0, 0, 0, 0, 1},
		"a Name of no byte":          {1, 0, 0, 0, 1, 0, 0, 5},
		"a topic of no byte":         {5, 0, 0, 0, 1, 0, 0, 1, 7},
		"a subscription to none":     {6, 0, 0, 0, 1, 0},
		"a Name of 25":               slices.Concat([]byte{1, 0, 0, 0, 1, 25}, zeros(25), []byte{0, 5}),
		"a topic of 25":              slices.Concat([]byte{5, 0, 0, 0, 1, 25}, zeros(25), []byte{0, 0}),
		"a subscription to 25":       slices.Concat([]byte{6, 0, 0, 0, 1, 25}, zeros(25)),
		"a Name of 255":              slices.Concat([]byte{6, 0, 0, 0, 1, 255}, zeros(255)),
		"Size 4097":                  {1, 0, 0, 0, 1, 1, 'a', 0x10, 1},
		"Size 65535":                 {1, 0, 0, 0, 1, 1, 'a', 255, 255},
		"Size 32768":                 {1, 0, 0, 0, 1, 1, 'a', 0x80, 0},
		"Size 4097 at the end":       {3, 0, 0, 0, 1, 0x10, 1, 1, 2, 3, 4},
		"Size 65535 at the end":      {3, 0, 0, 0, 1, 255, 255, 1, 2, 3, 4},
		"Offset 4096":                {2, 0, 0, 0, 1, 0x10, 0, 0, 1, 7},
		"Offset 4095 and 2":          {2, 0, 0, 0, 1, 0x0F, 255, 0, 2, 7, 8},
		"Offset 65535":               {2, 0, 0, 0, 1, 255, 255, 0, 1, 7},
		"Offset 3841 and 256":        slices.Concat([]byte{2, 0, 0, 0, 1, 0x0F, 1, 1, 0}, zeros(256)),
		"no Bytes of MsgData":        {2, 0, 0, 0, 1, 0, 1, 0, 0},
		"257 Bytes of MsgData":       slices.Concat([]byte{2, 0, 0, 0, 1, 0, 1, 1, 1}, zeros(257)),
		"257 Bytes of a topic":       slices.Concat([]byte{5, 0, 0, 0, 1, 1, 'k', 1, 1}, zeros(257)),
		"257 Bytes of a command":     slices.Concat([]byte{7, 0, 0, 0, 1, 1, 1}, zeros(257)),
		"257 Bytes of a receipt":     slices.Concat([]byte{8, 0, 0, 0, 1, 0, 1, 1}, zeros(257)),
		"65535 Bytes of a command":   slices.Concat([]byte{7, 0, 0, 0, 1, 255, 255}, zeros(65535)),
		"Number 0 and Name of none":  {6, 0, 0, 0, 0, 0},
		"all that may not be at one": slices.Concat([]byte{5, 0, 0, 0, 0, 200}, zeros(200), []byte{1, 44}, zeros(300)),
	} {
		refuses(t, what, b, api.ErrMessage)
		for n := range min(len(b), 700) {
			refuses(t, what+", a beginning", b[:n], api.ErrShort)
		}
		refuses(t, what+", a byte less", b[:len(b)-1], api.ErrShort)
		refuses(t, what+", a byte behind", append(slices.Clone(b), 0), api.ErrMessage)
	}
}

// P11.2: each length that may be said of a Name, with as many bytes, one fewer and one more.
func TestDecodeOfEachLengthOfName(t *testing.T) {
	for n := range 256 {
		ok := n >= 1 && n <= 24
		for kind, tail := range map[byte][]byte{1: {0, 9}, 5: {0, 2, 3, 4}, 6: {}} {
			row := func(has int) []byte {
				return slices.Concat([]byte{kind, 0, 0, 0, 7, byte(n)}, fill(8, has), tail)
			}
			what := fmt.Sprint("Kind ", kind, ", a Name of ", n)
			if e := asTold(t, what, row(n)); (e == api.OK) != ok {
				t.Errorf("%s: error %d", what, e)
			}
			if n > 0 {
				asTold(t, what+", of which one is missing", row(n-1))
			}
			asTold(t, what+", and one more", row(n+1))
			if kind == 6 {
				refuses(t, what+", and one more", row(n+1), api.ErrMessage)
			}
			if kind == 6 && n > 0 {
				refuses(t, what+", of which one is missing", row(n-1), api.ErrShort)
			}
		}
	}
}

// P11.2: lengths that may be said of Bytes, with as many bytes, one fewer and one more.
func TestDecodeOfEachLengthOfBytes(t *testing.T) {
	heads := map[int][]byte{2: {2, 0, 0, 0, 7, 0, 9}, 5: {5, 0, 0, 0, 7, 1, 'k'}, 7: {7, 0, 0, 0, 7}, 8: {8, 0, 0, 0, 7, 3}}
	for kind, head := range heads {
		for _, n := range append(upTo(300), 511, 512, 513, 4096, 32768, 65279, 65280, 65534, 65535) {
			row := slices.Concat(binary.BigEndian.AppendUint16(slices.Clone(head), uint16(n)), fill(2, n+1))
			what := fmt.Sprint("Kind ", kind, ", Bytes ", n)
			ok := n <= 256 && (n >= 1 || kind != 2)
			if e := asTold(t, what, row[:len(row)-1]); (e == api.OK) != ok {
				t.Errorf("%s: error %d", what, e)
			}
			refuses(t, what+", and one more", row, api.ErrMessage)
			if n > 0 {
				refuses(t, what+", of which one is missing", row[:len(row)-2], api.ErrShort)
				refuses(t, what+", of which all are missing", row[:len(head)+2], api.ErrShort)
			}
		}
	}
}

func upTo(n int) []int {
	var l []int
	for i := range n {
		l = append(l, i)
	}
	return l
}

// P11.2: each Size and each Offset that two bytes can say, each Code that one can say, Sums that four can say.
func TestDecodeOfEachNumber(t *testing.T) {
	for x := range 1 << 16 {
		high, low := byte(x>>8), byte(x)
		for what, r := range map[string]struct {
			b  []byte
			ok bool
		}{
			"Size":            {[]byte{1, 0, 0, 0, 1, 1, 'a', high, low}, x <= 4096},
			"Size at the end": {[]byte{3, 0, 0, 0, 1, high, low, 9, 8, 7, 6}, x <= 4096},
			"Offset":          {[]byte{2, 0, 0, 0, 1, high, low, 0, 3, 4, 5, 6}, x <= 4093},
		} {
			if e := asTold(t, what, r.b); (e == api.OK) != r.ok {
				t.Errorf("%s %d: error %d", what, x, e)
			}
		}
	}
	for x := range 256 {
		decodes(t, "Code", []byte{4, 0, 0, 0, 1, byte(x)}, api.Message{Kind: 4, Number: 1, Code: x})
		decodes(t, "Code of a receipt", []byte{8, 0, 0, 0, 1, byte(x), 0, 0}, api.Message{Kind: 8, Number: 1, Code: x})
	}
	for _, x := range someLongs() {
		b := binary.BigEndian.AppendUint32([]byte{3, 0, 0, 0, 1, 0, 2}, x)
		decodes(t, "Sum", b, api.Message{Kind: 3, Number: 1, Size: 2, Sum: x})
	}
}

// P11.2: edges, just within and just outside; numbers that do not fit into their bytes are cut there.
func TestDecodeAtTheEdges(t *testing.T) {
	variants(func(what string, m api.Message) {
		if may(m) {
			decodes(t, what, plain(m), m)
		} else {
			asTold(t, what, plain(m))
		}
	})
}

// P11.2, R1: rows of bytes of all kinds end, and are told as they are told once more.
func TestDecodeOfAnyBytes(t *testing.T) {
	d := dice(23)
	seen := map[api.Errno]int{}
	spoil := func(b []byte) []byte {
		for range 1 + d.below(3) {
			if len(b) == 0 {
				break
			}
			at := d.below(len(b))
			switch d.below(4) {
			case 0:
				b[at] ^= 1 << d.below(8)
			case 1:
				b = slices.Delete(b, at, at+1)
			case 2:
				b = slices.Insert(b, at, byte(d.below(256)))
			case 3:
				b[min(at, d.below(12))] = byte(d.below(256) >> d.below(8))
			}
		}
		return b
	}
	for range 20000 {
		seen[asTold(t, "spoilt", spoil(plain(d.message())))]++
		row := make([]byte, d.below(30))
		for i := range row {
			row[i] = byte(d.below(256) >> d.below(8))
		}
		if len(row) > 0 {
			row[0] = byte(d.below(10))
		}
		seen[asTold(t, "any bytes", row)]++
	}
	if seen[api.OK] < 3000 || seen[api.ErrShort] < 3000 || seen[api.ErrMessage] < 3000 {
		t.Errorf("told: %v", seen)
	}
}
