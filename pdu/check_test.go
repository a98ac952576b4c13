package pdu_test

import (
	"fmt"
	"math"
	"slices"
	"testing"

	"heliograph/api"
	"heliograph/pdu"
)

// P11.1: the numbers of package api are those that the chapter says.
func TestNumbers(t *testing.T) {
	if api.MsgMeta != 1 || api.MsgData != 2 || api.MsgEnd != 3 || api.MsgDone != 4 || api.MsgTopic != 5 || api.MsgSubscribe != 6 || api.MsgCommand != 7 || api.MsgReceipt != 8 {
		t.Error("a Kind has another number than the chapter says")
	}
	if api.ErrMessage != 210 || api.ErrShort != 7 || api.MaxName != 24 || api.MaxFile != 4096 || api.MaxPart != 256 || api.MaxPayload != 400 {
		t.Error("a number of package api is another one than the document says")
	}
}

func checks(t *testing.T, what string, m api.Message, ok bool) {
	t.Helper()
	want := api.ErrMessage
	if ok {
		want = api.OK
	}
	if e := pdu.Check(m); e != want {
		t.Errorf("%s: Check: %d, want %d", what, e, want)
	}
	if may(m) != ok {
		t.Errorf("%s: told otherwise", what)
	}
}

// P11.1: the chapter's examples, and messages of each Kind.
func TestCheckExamples(t *testing.T) {
	checks(t, "the first example", api.Message{Kind: 1, Number: 1, Name: "a", Size: 5}, true)
	checks(t, "the second example", api.Message{Kind: 2, Number: 2, Offset: 1, Bytes: []byte{7}}, true)
	checks(t, "the third example", api.Message{Kind: 4, Number: 3, Code: 1}, true)
	checks(t, "MsgData without Bytes", api.Message{Kind: 2, Number: 1}, false)
	for _, m := range slices.Concat(kinds(), greatest(), least()) {
		checks(t, fmt.Sprint("Kind ", m.Kind), m, true)
	}
	checks(t, "nothing", api.Message{}, false)
}

// P11.1: each Kind, with nothing but a Number, and with the fields of each other one.
func TestCheckOfEachKind(t *testing.T) {
	fits := map[[2]int]bool{}
	for kind := 1; kind <= 8; kind++ {
		fits[[2]int{kind, kind}] = true
	}
	fits[[2]int{5, 6}] = true // a topic without Bytes
	fits[[2]int{8, 4}] = true // a Code
	fits[[2]int{8, 7}] = true // Bytes, with the Code 0
	fits[[2]int{2, 7}] = true // Bytes, with the Offset 0
	fits[[2]int{1, 6}] = true // a Name, with the Size 0
	for _, kind := range []int{math.MinInt, -1, 0, 1, 2, 3, 4, 5, 6, 7, 8, 9, 10, 16, 255, 256, 257, 258, 259, 260, 264, 1 << 32, 1<<32 + 3, 1<<32 + 4, math.MinInt + 3, math.MaxInt} {
		checks(t, fmt.Sprint("nothing but Kind ", kind), api.Message{Kind: kind, Number: 1}, kind == 3 || kind == 4 || kind == 7 || kind == 8)
		for _, m := range kinds() {
			c := m
			c.Kind = kind
			checks(t, fmt.Sprint("Kind ", kind, " with the fields of ", m.Kind), c, fits[[2]int{kind, m.Kind}])
		}
	}
}

// P11.1: Number, of each Kind.
func TestCheckOfNumber(t *testing.T) {
	for _, m := range slices.Concat(kinds(), greatest(), least()) {
		for number, ok := range map[uint32]bool{0: false, 1: true, 2: true, 255: true, 256: true, 1 << 31: true, math.MaxUint32: true} {
			c := m
			c.Number = number
			checks(t, fmt.Sprint("Kind ", m.Kind, ", Number ", number), c, ok)
		}
	}
}

// P11.1: a name has 1 to MaxName bytes, whichever they are.
func TestCheckOfName(t *testing.T) {
	for _, m := range []api.Message{meta(), topic(), subscribe()} {
		for n := range 70 {
			m.Name = text(n)
			checks(t, fmt.Sprint("Kind ", m.Kind, ", a Name of ", n), m, n >= 1 && n <= 24)
		}
		for _, n := range []int{256, 257, 280, 281, 65536, 65537, 65560} {
			m.Name = text(n)
			checks(t, fmt.Sprint("Kind ", m.Kind, ", a Name of ", n), m, false)
		}
		for x := range 256 {
			m.Name = string([]byte{byte(x)})
			checks(t, fmt.Sprint("Kind ", m.Kind, ", the Name ", x), m, true)
			m.Name = string([]byte{'a', byte(x), byte(x), 0})
			checks(t, fmt.Sprint("Kind ", m.Kind, ", a Name with ", x), m, true)
		}
		// Bytes are counted, not letters.
		m.Name = "ääääääääääää"
		checks(t, fmt.Sprint("Kind ", m.Kind, ", 12 letters of 2 bytes"), m, true)
		m.Name += "a"
		checks(t, fmt.Sprint("Kind ", m.Kind, ", 13 letters of 25 bytes"), m, false)
	}
}

// P11.1: Size is 0 to MaxFile.
func TestCheckOfSize(t *testing.T) {
	for size, ok := range map[int]bool{math.MinInt: false, -4096: false, -1: false, 0: true, 1: true, 255: true, 256: true, 4095: true, 4096: true, 4097: false, 8192: false, 65535: false, 65536: false, 65537: false, 1 << 32: false, 1<<32 + 1: false, math.MaxInt: false} {
		for _, m := range []api.Message{meta(), end()} {
			m.Size = size
			checks(t, fmt.Sprint("Kind ", m.Kind, ", Size ", size), m, ok)
		}
	}
}

// P11.1: Sum is any.
func TestCheckOfSum(t *testing.T) {
	for _, sum := range someLongs() {
		m := end()
		m.Sum = sum
		checks(t, fmt.Sprint("Sum ", sum), m, true)
	}
}

// P11.1: Code is 0 to 255.
func TestCheckOfCode(t *testing.T) {
	for _, m := range []api.Message{done(), receipt()} {
		for code := -300; code < 600; code++ {
			m.Code = code
			checks(t, fmt.Sprint("Kind ", m.Kind, ", Code ", code), m, code >= 0 && code <= 255)
		}
		for _, code := range []int{math.MinInt, math.MinInt + 1, -65536, 65536, 1 << 32, 1<<32 + 1, math.MaxInt} {
			m.Code = code
			checks(t, fmt.Sprint("Kind ", m.Kind, ", Code ", code), m, false)
		}
	}
}

// P11.1: Bytes are at most MaxPart, and of MsgData at least 1.
func TestCheckOfBytes(t *testing.T) {
	all := fill(2, 70000)
	for _, m := range []api.Message{data(), topic(), command(), receipt()} {
		m.Offset = 0
		for _, n := range []int{0, 1, 2, 3, 24, 25, 100, 254, 255, 256, 257, 258, 399, 400, 401, 4096, 4097, 65535, 65536, 65537, 65792, 70000} {
			m.Bytes = all[:n]
			checks(t, fmt.Sprint("Kind ", m.Kind, ", Bytes ", n), m, n <= 256 && (n >= 1 || m.Kind != 2))
		}
		m.Bytes = nil
		checks(t, fmt.Sprint("Kind ", m.Kind, ", nil as Bytes"), m, m.Kind != 2)
	}
}

// P11.1: Offset is 0 to MaxFile less the bytes.
func TestCheckOfOffset(t *testing.T) {
	all := fill(3, 300)
	for _, n := range []int{0, 1, 2, 100, 255, 256, 257, 300} {
		m := api.Message{Kind: 2, Number: 1, Bytes: all[:n]}
		for offset := -300; offset < 4500; offset++ {
			m.Offset = offset
			checks(t, fmt.Sprintf("%d bytes from %d on", n, offset), m, n >= 1 && n <= 256 && offset >= 0 && offset+n <= 4096)
		}
		for _, offset := range []int{math.MinInt, math.MinInt + 1, math.MinInt + 4096, -1 << 32, 65535, 65536, 65537, 1 << 32, 1<<32 + 1, math.MaxInt - n - 1, math.MaxInt - n, math.MaxInt - n + 1, math.MaxInt - 1, math.MaxInt} {
			m.Offset = offset
			checks(t, fmt.Sprintf("%d bytes from %d on", n, offset), m, false)
		}
	}
}

// P11.1: a field that does not count is zero.
func TestCheckOfFieldsThatDoNotCount(t *testing.T) {
	sets := map[string][]func(m *api.Message){
		"Name":   {func(m *api.Message) { m.Name = "a" }, func(m *api.Message) { m.Name = "\x00" }, func(m *api.Message) { m.Name = text(25) }},
		"Size":   {func(m *api.Message) { m.Size = 1 }, func(m *api.Message) { m.Size = -1 }, func(m *api.Message) { m.Size = 1 << 16 }, func(m *api.Message) { m.Size = 1 << 32 }},
		"Offset": {func(m *api.Message) { m.Offset = 1 }, func(m *api.Message) { m.Offset = -1 }, func(m *api.Message) { m.Offset = 1 << 16 }, func(m *api.Message) { m.Offset = 1 << 32 }},
		"Sum":    {func(m *api.Message) { m.Sum = 1 }, func(m *api.Message) { m.Sum = math.MaxUint32 }},
		"Code":   {func(m *api.Message) { m.Code = 1 }, func(m *api.Message) { m.Code = -1 }, func(m *api.Message) { m.Code = 256 }, func(m *api.Message) { m.Code = 1 << 32 }},
		"Bytes":  {func(m *api.Message) { m.Bytes = []byte{0} }, func(m *api.Message) { m.Bytes = fill(1, 257) }},
	}
	asked := 0
	for _, m := range slices.Concat(kinds(), greatest(), least()) {
		for name, l := range sets {
			if slices.Contains(counts(m.Kind), name) {
				continue
			}
			for _, set := range l {
				c := m
				set(&c)
				checks(t, fmt.Sprint("Kind ", m.Kind, " with ", name), c, false)
			}
			asked++
		}
		if len(m.Bytes) == 0 {
			c := m
			c.Bytes = []byte{}
			checks(t, fmt.Sprint("Kind ", m.Kind, " with an empty list"), c, true)
		}
	}
	if asked != 3*(8*6-13) {
		t.Errorf("%d fields were asked for", asked)
	}
}

// P11.1: all edges of all fields, held against what is told once more.
func TestCheckAtTheEdges(t *testing.T) {
	ok, not := 0, 0
	variants(func(what string, m api.Message) {
		checks(t, what, m, may(m))
		if may(m) {
			ok++
		} else {
			not++
		}
	})
	if ok < 600 || not < 6000 {
		t.Errorf("%d that may be, %d that may not", ok, not)
	}
}

// P11.1: two messages are the same, if all their fields are; whether they may be is not asked.
func TestSame(t *testing.T) {
	var l []api.Message
	i := 0
	variants(func(_ string, m api.Message) {
		if !pdu.Same(m, m) || !pdu.Same(m, deep(m)) {
			t.Errorf("%v is not the same as itself", m)
		}
		if i++; i%9 == 0 && len(m.Bytes) < 1000 && len(m.Name) < 1000 {
			l = append(l, m)
		}
	})
	for _, a := range append(l, kinds()...) {
		for _, b := range l {
			if pdu.Same(a, b) != alike(a, b) {
				t.Errorf("Same of %v and %v: %v", a, b, pdu.Same(a, b))
			}
		}
	}
}

// P11.1: one field that is another one is enough, whichever, and by whichever bit; also one that does not count.
func TestSameOfOneFieldChanged(t *testing.T) {
	differ := func(what string, a, b api.Message) {
		t.Helper()
		if pdu.Same(a, b) || pdu.Same(b, a) {
			t.Errorf("%s changed: the same", what)
		}
	}
	for _, m := range slices.Concat(kinds(), greatest(), least(), []api.Message{{}}) {
		for bit := range 64 {
			for _, f := range intFields() {
				c := m
				*f.of(&c) ^= 1 << bit
				differ(fmt.Sprint(f.name, " by bit ", bit), m, c)
			}
			for _, f := range longFields() {
				c := m
				*f.of(&c) ^= 1 << (bit % 32)
				differ(fmt.Sprint(f.name, " by bit ", bit%32), m, c)
			}
		}
		for i := range m.Bytes {
			c := deep(m)
			c.Bytes[i] ^= 0x80
			differ(fmt.Sprint("Bytes at ", i), m, c)
		}
		for i := range len(m.Name) {
			c, name := m, []byte(m.Name)
			name[i] ^= 0x20
			c.Name = string(name)
			differ(fmt.Sprint("Name at ", i), m, c)
		}
		c := deep(m)
		c.Bytes = append(c.Bytes, 0)
		differ("the length of Bytes", m, c)
		c = m
		c.Name += "\x00"
		differ("the length of Name", m, c)
	}
}

// P11.1: what one field has lost and another one has got is no less a change.
func TestSameOfFieldsSwapped(t *testing.T) {
	ways := map[string]api.Message{
		"Kind": {Kind: 97}, "Number": {Number: 97}, "Name": {Name: "a"}, "Size": {Size: 97}, "Offset": {Offset: 97}, "Sum": {Sum: 97}, "Code": {Code: 97}, "Bytes": {Bytes: []byte("a")},
	}
	for one, a := range ways {
		for two, b := range ways {
			if pdu.Same(a, b) != (one == two) {
				t.Errorf("97 as %s, and as %s: %v", one, two, pdu.Same(a, b))
			}
		}
	}
}

// P11.1, R3: nil and empty lists are one; the room behind a list's end does not count.
func TestSameOfNilAndEmpty(t *testing.T) {
	for _, m := range append(kinds(), api.Message{}) {
		a, b := m, m
		a.Bytes, b.Bytes = nil, []byte{}
		if !pdu.Same(a, b) || !pdu.Same(b, a) {
			t.Error("nil and empty lists are not the same")
		}
		a.Bytes, b.Bytes = []byte{5, 6, 7}[:2], []byte{5, 6}
		if !pdu.Same(a, b) || !pdu.Same(b, a) {
			t.Error("the room behind the end counts")
		}
	}
}
