package pdu_test

import (
	"encoding/binary"
	"fmt"
	"math"
	"math/big"
	"reflect"
	"slices"
	"strings"
	"testing"

	"heliograph/api"
	"heliograph/pdu"
)

// One message of each Kind, in which no two numbers are the same, so that fields that are mixed up are seen.

func meta() api.Message {
	return api.Message{Kind: 1, Number: 0x01020304, Name: "file", Size: 0x0506}
}

func data() api.Message {
	return api.Message{Kind: 2, Number: 70000, Offset: 0x0809, Bytes: fill(4, 40)}
}

func end() api.Message {
	return api.Message{Kind: 3, Number: 300, Size: 0x0a0b, Sum: 0xc1c2c3c4}
}

func done() api.Message {
	return api.Message{Kind: 4, Number: 0x80000001, Code: 200}
}

func topic() api.Message {
	return api.Message{Kind: 5, Number: 17, Name: "topic", Bytes: fill(5, 30)}
}

func subscribe() api.Message {
	return api.Message{Kind: 6, Number: 1, Name: "k"}
}

func command() api.Message {
	return api.Message{Kind: 7, Number: 256, Bytes: fill(6, 20)}
}

func receipt() api.Message {
	return api.Message{Kind: 8, Number: 65536, Code: 7, Bytes: fill(7, 10)}
}

// kinds is one message of each Kind that may be, in their order.
func kinds() []api.Message {
	return []api.Message{meta(), data(), end(), done(), topic(), subscribe(), command(), receipt()}
}

// greatest is of each Kind the message that has the most bytes, and the greatest numbers.
func greatest() []api.Message {
	name, part := text(24), fill(9, 256)
	return []api.Message{
		{Kind: 1, Number: math.MaxUint32, Name: name, Size: 4096},
		{Kind: 2, Number: math.MaxUint32, Offset: 4096 - 256, Bytes: part},
		{Kind: 3, Number: math.MaxUint32, Size: 4096, Sum: math.MaxUint32},
		{Kind: 4, Number: math.MaxUint32, Code: 255},
		{Kind: 5, Number: math.MaxUint32, Name: name, Bytes: part},
		{Kind: 6, Number: math.MaxUint32, Name: name},
		{Kind: 7, Number: math.MaxUint32, Bytes: part},
		{Kind: 8, Number: math.MaxUint32, Code: 255, Bytes: part},
	}
}

// least is of each Kind the message that has the fewest bytes, and the least numbers.
func least() []api.Message {
	return []api.Message{
		{Kind: 1, Number: 1, Name: "\x00"},
		{Kind: 2, Number: 1, Bytes: []byte{0}},
		{Kind: 3, Number: 1},
		{Kind: 4, Number: 1},
		{Kind: 5, Number: 1, Name: "\xff"},
		{Kind: 6, Number: 1, Name: "/"},
		{Kind: 7, Number: 1},
		{Kind: 8, Number: 1},
	}
}

// fill is n bytes, others for each seed.
func fill(seed, n int) []byte {
	b := make([]byte, n)
	for i := range b {
		b[i] = byte(seed*31 + i*7 + i/256)
	}
	return b
}

// text is a name of n bytes, of which not all are letters.
func text(n int) string {
	return string(fill(n, n))
}

// field is a field of type int.
type field struct {
	name string
	of   func(m *api.Message) *int
}

func intFields() []field {
	return []field{
		{"Kind", func(m *api.Message) *int { return &m.Kind }},
		{"Size", func(m *api.Message) *int { return &m.Size }},
		{"Offset", func(m *api.Message) *int { return &m.Offset }},
		{"Code", func(m *api.Message) *int { return &m.Code }},
	}
}

// longField is a field of type uint32.
type longField struct {
	name string
	of   func(m *api.Message) *uint32
}

func longFields() []longField {
	return []longField{
		{"Number", func(m *api.Message) *uint32 { return &m.Number }},
		{"Sum", func(m *api.Message) *uint32 { return &m.Sum }},
	}
}

// someInts are at the edges that the chapter names, and far from them; some would be right, if a part of their bits were lost.
func someInts() []int {
	l := []int{-65536, -4096, -256, -2, 10, 100, 127, 128, 199, 200, 201, 254, 255, 256, 257, 511, 512, 3839, 3840, 3841, 4055, 4056, 4057, 4094, 4095, 4096, 4097, 8192, 65535, 65536, 65537, 65536 + 256, 65536 + 4096}
	for n := -1; n <= 9; n++ {
		l = append(l, n)
	}
	for _, n := range []int{0, 1, 2, 5, 8, 39, 40, 255, 256, 4096} {
		l = append(l, n+1<<32, n-1<<32, n+math.MinInt, math.MaxInt-n)
	}
	return l
}

func someLongs() []uint32 {
	return []uint32{0, 1, 2, 255, 256, 65535, 65536, 1 << 31, math.MaxUint32 - 1, math.MaxUint32}
}

// variants hands on messages of each Kind with each field at each of its edges, both those that may be and others.
func variants(f func(what string, m api.Message)) {
	for _, m := range slices.Concat(kinds(), greatest(), least(), []api.Message{{}}) {
		tell := func(what string, c api.Message) {
			f(fmt.Sprintf("Kind %d, %s", m.Kind, what), c)
		}
		tell("as it is", m)
		for _, x := range intFields() {
			for _, n := range someInts() {
				c := m
				*x.of(&c) = n
				tell(fmt.Sprint(x.name, " ", n), c)
			}
		}
		for _, x := range longFields() {
			for _, n := range someLongs() {
				c := m
				*x.of(&c) = n
				tell(fmt.Sprint(x.name, " ", n), c)
			}
		}
		for _, n := range []int{0, 1, 2, 3, 23, 24, 25, 26, 255, 256, 257, 256 + 24, 70000} {
			c := m
			c.Name = text(n)
			tell(fmt.Sprint("a Name of ", n), c)
		}
		for _, n := range []int{0, 1, 2, 39, 41, 255, 256, 257, 258, 4096, 4097, 65535, 65536, 65537, 65536 + 256} {
			c := m
			c.Bytes = fill(3, n)
			tell(fmt.Sprint(n, " Bytes"), c)
		}
	}
}

// counts are the fields that count for a Kind, as the chapter's table names them, in its order.
func counts(kind int) []string {
	table := map[int]string{1: "Name Size", 2: "Offset Bytes", 3: "Size Sum", 4: "Code", 5: "Name Bytes", 6: "Name", 7: "Bytes", 8: "Code Bytes"}
	return strings.Fields(table[kind])
}

// isSet is which fields are not zero.
func isSet(m api.Message) map[string]bool {
	return map[string]bool{
		"Name": m.Name != "", "Size": m.Size != 0, "Offset": m.Offset != 0, "Sum": m.Sum != 0, "Code": m.Code != 0, "Bytes": len(m.Bytes) != 0,
	}
}

// may is whether a message may be, told once more: row by row of the chapter's table, with numbers without end.
func may(m api.Message) bool {
	for name, set := range isSet(m) {
		if set && !slices.Contains(counts(m.Kind), name) {
			return false
		}
	}
	if m.Number < 1 {
		return false
	}
	isName := len(m.Name) >= 1 && len(m.Name) <= 24
	isSize := m.Size >= 0 && m.Size <= 4096
	isCode := m.Code >= 0 && m.Code <= 255
	isPart := len(m.Bytes) <= 256
	switch m.Kind {
	case 1:
		return isName && isSize
	case 2:
		behind := new(big.Int).Add(big.NewInt(int64(m.Offset)), big.NewInt(int64(len(m.Bytes))))
		return isPart && len(m.Bytes) >= 1 && m.Offset >= 0 && behind.Cmp(big.NewInt(4096)) <= 0
	case 3:
		return isSize
	case 4:
		return isCode
	case 5:
		return isName && isPart
	case 6:
		return isName
	case 7:
		return isPart
	case 8:
		return isCode && isPart
	}
	return false
}

// right are messages that may be.
func right() []api.Message {
	l := slices.Concat(kinds(), greatest(), least())
	variants(func(_ string, m api.Message) {
		if may(m) {
			l = append(l, m)
		}
	})
	d := dice(17)
	for range 500 {
		l = append(l, d.message())
	}
	return l
}

// dice is a row of numbers that is the same at each run.
type dice uint64

func (d *dice) below(n int) int {
	*d = *d*6364136223846793005 + 1442695040888963407
	return int(uint64(*d>>33) % uint64(n))
}

func (d *dice) long() uint32 {
	return uint32(d.below(math.MaxUint32)>>d.below(31)) + 1
}

// message is one that may be, with numbers and lists of each length.
func (d *dice) message() api.Message {
	m := api.Message{Kind: 1 + d.below(8), Number: d.long()}
	for _, name := range counts(m.Kind) {
		switch name {
		case "Name":
			m.Name = string(fill(d.below(99), 1+d.below(24)))
		case "Size":
			m.Size = d.below(4097) >> d.below(12)
		case "Offset":
			m.Offset = d.below(4096-256+1) >> d.below(12)
		case "Sum":
			m.Sum = d.long()
		case "Code":
			m.Code = d.below(256)
		case "Bytes":
			m.Bytes = fill(d.below(99), 1+d.below(256)>>d.below(9))
		}
	}
	return m
}

// alike is Same, told once more.
func alike(a, b api.Message) bool {
	if string(a.Bytes) != string(b.Bytes) {
		return false
	}
	a.Bytes, b.Bytes = nil, nil
	return reflect.DeepEqual(a, b)
}

func deep(m api.Message) api.Message {
	m.Bytes = slices.Clone(m.Bytes)
	return m
}

// plain are the bytes of a message, told once more, without the layers below; numbers are cut to the size of their bytes.
func plain(m api.Message) []byte {
	order := binary.BigEndian
	b := order.AppendUint32([]byte{byte(m.Kind)}, m.Number)
	for _, name := range counts(m.Kind) {
		switch name {
		case "Name":
			b = append(append(b, byte(len(m.Name))), m.Name...)
		case "Size":
			b = order.AppendUint16(b, uint16(m.Size))
		case "Offset":
			b = order.AppendUint16(b, uint16(m.Offset))
		case "Sum":
			b = order.AppendUint32(b, m.Sum)
		case "Code":
			b = append(b, byte(m.Code))
		case "Bytes":
			b = append(order.AppendUint16(b, uint16(len(m.Bytes))), m.Bytes...)
		}
	}
	return b
}

// told is Decode, told once more: how long the bytes must be is reckoned first, without a look at what they say.
func told(b []byte) (api.Message, api.Errno) {
	if len(b) == 0 {
		return api.Message{}, api.ErrShort
	}
	if b[0] < 1 || b[0] > 8 {
		return api.Message{}, api.ErrMessage
	}
	at, ends := places(b)
	if at < 0 {
		return api.Message{}, api.ErrShort
	}
	number := func(name string) int {
		n := 0
		for _, x := range ends[name] {
			n = n*256 + int(x)
		}
		return n
	}
	m := api.Message{Kind: int(b[0]), Number: binary.BigEndian.Uint32(b[1:]), Name: string(ends["Name"]),
		Size: number("Size"), Offset: number("Offset"), Sum: uint32(number("Sum")), Code: number("Code"), Bytes: ends["Bytes"]}
	if at < len(b) || !may(m) {
		return api.Message{}, api.ErrMessage
	}
	return m, api.OK
}

// places are the bytes of each field, and how many there are of all; -1, if b has fewer.
func places(b []byte) (int, map[string][]byte) {
	size := map[string]int{"Size": 2, "Offset": 2, "Sum": 4, "Code": 1}
	head := map[string]int{"Name": 1, "Bytes": 2}
	at, out := 5, map[string][]byte{}
	for _, name := range counts(int(b[0])) {
		n := size[name]
		if k := head[name]; k > 0 {
			if at+k > len(b) {
				return -1, nil
			}
			for _, x := range b[at : at+k] {
				n = n*256 + int(x)
			}
			at += k
		}
		if at+n > len(b) {
			return -1, nil
		}
		out[name] = b[at : at+n]
		at += n
	}
	if at > len(b) {
		return -1, nil
	}
	return at, out
}

// cut tells bytes without all of them.
func cut(b []byte) string {
	return fmt.Sprintf("(%d) % x", len(b), b[:min(40, len(b))])
}

// refuses asks for an error, and zeros beside it.
func refuses(t *testing.T, what string, b []byte, want api.Errno) {
	t.Helper()
	m, e := pdu.Decode(b)
	if e != want || !alike(m, api.Message{}) {
		t.Errorf("%s: Decode %s: %v, error %d; want nothing, error %d", what, cut(b), m, e, want)
	}
	if _, e := told(b); e != want {
		t.Errorf("%s: told otherwise: error %d, want %d", what, e, want)
	}
}

// decodes asks for a message.
func decodes(t *testing.T, what string, b []byte, want api.Message) {
	t.Helper()
	m, e := pdu.Decode(b)
	if e != api.OK || !alike(m, want) {
		t.Errorf("%s: Decode %s: %v, error %d; want %v", what, cut(b), m, e, want)
	}
}

// asTold holds Decode against what is told.
func asTold(t *testing.T, what string, b []byte) api.Errno {
	t.Helper()
	want, e := told(b)
	if e == api.OK {
		decodes(t, what, b, want)
	} else {
		refuses(t, what, b, e)
	}
	return e
}
