package octet_test

import (
	"bytes"
	"math"
	"testing"

	"heliograph/api"
	"heliograph/octet"
)

// puts are the three calls, as one shape: how many bytes they lay, how to lay them, how to read them.
var puts = []struct {
	name string
	size int
	put  func(b []byte, x uint64) []byte
	read func(r *octet.Reader) uint64
}{
	{"16", 2,
		func(b []byte, x uint64) []byte { return octet.Put16(b, uint16(x)) },
		func(r *octet.Reader) uint64 { return uint64(r.U16()) }},
	{"32", 4,
		func(b []byte, x uint64) []byte { return octet.Put32(b, uint32(x)) },
		func(r *octet.Reader) uint64 { return uint64(r.U32()) }},
	{"64", 8,
		octet.Put64,
		(*octet.Reader).U64},
}

func same(t *testing.T, what string, got, want []byte) {
	t.Helper()
	if !bytes.Equal(got, want) {
		t.Errorf("%s: % x, want % x", what, got, want)
	}
}

func stands(t *testing.T, what string, r *octet.Reader, left int, err api.Errno) {
	t.Helper()
	if r.Left() != left || r.Err() != err {
		t.Errorf("%s: %d left, error %d; want %d, %d", what, r.Left(), r.Err(), left, err)
	}
}

// P1.1.
func TestPutLaysTheHighestByteFirst(t *testing.T) {
	same(t, "Put16 behind 07", octet.Put16([]byte{7}, 258), []byte{7, 1, 2})
	same(t, "Put16 of 0", octet.Put16(nil, 0), []byte{0, 0})
	same(t, "Put16 of the greatest", octet.Put16(nil, math.MaxUint16), []byte{255, 255})
	same(t, "Put32 of 1", octet.Put32(nil, 1), []byte{0, 0, 0, 1})
	same(t, "Put32 of four bytes", octet.Put32([]byte{0, 9}, 0xa1b2c3d4), []byte{0, 9, 0xa1, 0xb2, 0xc3, 0xd4})
	same(t, "Put32 of the greatest", octet.Put32(nil, math.MaxUint32), []byte{255, 255, 255, 255})
	same(t, "Put64 of 256", octet.Put64(nil, 256), []byte{0, 0, 0, 0, 0, 0, 1, 0})
	same(t, "Put64 of eight bytes", octet.Put64([]byte{}, 0x8102030405060708), []byte{0x81, 2, 3, 4, 5, 6, 7, 8})
	same(t, "Put64 of the greatest", octet.Put64([]byte{1, 2, 3}, math.MaxUint64),
		[]byte{1, 2, 3, 255, 255, 255, 255, 255, 255, 255, 255})
}

// P1.1, R3: neither b nor the room behind its end is written, and the answer is no part of it.
func TestPutAnswersNewMemory(t *testing.T) {
	for _, p := range puts {
		room := bytes.Repeat([]byte{0xee}, 20)
		b := room[:3]
		first := p.put(b, 1)
		second := p.put(b, 2)
		same(t, p.name+": what was handed in", room, bytes.Repeat([]byte{0xee}, 20))
		if first[len(first)-1] != 1 || second[len(second)-1] != 2 {
			t.Errorf("%s: two answers share their memory", p.name)
		}
		clear(first)
		same(t, p.name+": what was handed in, its answer changed", b, []byte{0xee, 0xee, 0xee})
		b[0] = 5
		if second[0] != 0xee {
			t.Errorf("%s: the answer changes with what was handed in", p.name)
		}
	}
}

// P1.2.
func TestEqual(t *testing.T) {
	rows := []struct {
		a, b []byte
		want bool
	}{
		{[]byte{1, 2}, []byte{1, 2}, true},
		{nil, nil, true},
		{nil, []byte{}, true},
		{[]byte{0}, []byte{0}, true},
		{nil, []byte{0}, false},
		{[]byte{1}, []byte{1, 0}, false},
		{[]byte{1, 2}, []byte{1, 3}, false},
		{[]byte{1, 2, 3}, []byte{0, 2, 3}, false},
		{[]byte{1, 2, 3}, []byte{1, 0x82, 3}, false},
		{[]byte{1, 2}, []byte{2, 1}, false},
	}
	for _, r := range rows {
		if octet.Equal(r.a, r.b) != r.want || octet.Equal(r.b, r.a) != r.want {
			t.Errorf("Equal(% x, % x) is not %t both ways", r.a, r.b, r.want)
		}
	}
}

// P1.2.
func TestZero(t *testing.T) {
	for n := range 20 {
		b := make([]byte, n)
		if !octet.Zero(b) {
			t.Errorf("%d noughts are not zero", n)
		}
		for i := range b {
			for bit := range 8 {
				b[i] = 1 << bit
				if octet.Zero(b) {
					t.Errorf("% x is zero", b)
				}
			}
			b[i] = 0
		}
	}
	if !octet.Zero(nil) {
		t.Error("no bytes are not zero")
	}
}

// P1.3: each call takes its own number of bytes, in order.
func TestReadInOrder(t *testing.T) {
	r := octet.Read([]byte{9, 1, 2, 0xa1, 0xb2, 0xc3, 0xd4, 7, 8, 0x81, 2, 3, 4, 5, 6, 7, 8, 3})
	stands(t, "at first", r, 18, api.OK)
	if x := r.U8(); x != 9 {
		t.Errorf("U8: %d", x)
	}
	stands(t, "behind U8", r, 17, api.OK)
	if x := r.U16(); x != 258 {
		t.Errorf("U16: %d", x)
	}
	stands(t, "behind U16", r, 15, api.OK)
	if x := r.U32(); x != 0xa1b2c3d4 {
		t.Errorf("U32: %x", x)
	}
	stands(t, "behind U32", r, 11, api.OK)
	same(t, "Raw", r.Raw(2), []byte{7, 8})
	stands(t, "behind Raw", r, 9, api.OK)
	if x := r.U64(); x != 0x8102030405060708 {
		t.Errorf("U64: %x", x)
	}
	same(t, "the last byte", r.Raw(1), []byte{3})
	same(t, "no bytes at the end", r.Raw(0), nil)
	stands(t, "at the end", r, 0, api.OK)
}

// reads are all calls that read, each told by whether it answers something.
var reads = []struct {
	name string
	size int
	some func(r *octet.Reader) bool
}{
	{"U8", 1, func(r *octet.Reader) bool { return r.U8() != 0 }},
	{"U16", 2, func(r *octet.Reader) bool { return r.U16() != 0 }},
	{"U32", 4, func(r *octet.Reader) bool { return r.U32() != 0 }},
	{"U64", 8, func(r *octet.Reader) bool { return r.U64() != 0 }},
	{"Raw(3)", 3, func(r *octet.Reader) bool { return len(r.Raw(3)) != 0 }},
	{"Raw(the greatest)", math.MaxInt, func(r *octet.Reader) bool { return len(r.Raw(math.MaxInt)) != 0 }},
}

// P1.3: with fewer bytes left than asked for nothing is read, and the Reader stands where it stood.
func TestReadTooFar(t *testing.T) {
	full := bytes.Repeat([]byte{0xff}, 12)
	for _, c := range reads {
		for left := range 10 {
			r := octet.Read(full[:left+1])
			r.U8()
			some := c.some(r)
			if left >= c.size {
				if !some {
					t.Errorf("%s with %d left answers nothing", c.name, left)
				}
				stands(t, c.name, r, left-c.size, api.OK)
				continue
			}
			if some {
				t.Errorf("%s with %d left answers something", c.name, left)
			}
			stands(t, c.name, r, left, api.ErrShort)
		}
	}
}

// P1.3: a Reader that has an error reads nothing any more, and keeps the error and its place.
func TestReadBehindAnError(t *testing.T) {
	faults := []struct {
		name string
		make func(r *octet.Reader)
		err  api.Errno
	}{
		{"too far", func(r *octet.Reader) { r.Raw(13) }, api.ErrShort},
		{"below 0", func(r *octet.Reader) { r.Raw(-1) }, api.ErrArg},
		{"far below 0", func(r *octet.Reader) { r.Raw(math.MinInt) }, api.ErrArg},
		{"too far, then below 0", func(r *octet.Reader) { r.Raw(13); r.Raw(-1) }, api.ErrShort},
		{"below 0, then too far", func(r *octet.Reader) { r.Raw(-1); r.Raw(13) }, api.ErrArg},
	}
	for _, f := range faults {
		r := octet.Read(bytes.Repeat([]byte{0xff}, 13))
		r.U8()
		f.make(r)
		stands(t, f.name, r, 12, f.err)
		for _, c := range reads {
			if c.some(r) {
				t.Errorf("%s: %s answers something", f.name, c.name)
			}
			stands(t, f.name+": "+c.name, r, 12, f.err)
		}
		same(t, f.name+": Raw(0)", r.Raw(0), nil)
		stands(t, f.name+": Raw(0)", r, 12, f.err)
	}
}

// P1.3: Raw below 0 answers nothing, also where no bytes are left.
func TestRawBelowNought(t *testing.T) {
	for _, b := range [][]byte{nil, {}, {1}, {1, 2, 3}} {
		for _, n := range []int{-1, -2, -3, math.MinInt} {
			r := octet.Read(b)
			same(t, "Raw below 0", r.Raw(n), nil)
			stands(t, "Raw below 0", r, len(b), api.ErrArg)
		}
	}
}

// P1.3: of no bytes there is a Reader, and it has no error.
func TestReadNothing(t *testing.T) {
	for _, b := range [][]byte{nil, {}} {
		r := octet.Read(b)
		if r == nil {
			t.Fatal("no Reader")
		}
		stands(t, "a Reader of nothing", r, 0, api.OK)
		same(t, "Raw(0)", r.Raw(0), nil)
		stands(t, "behind Raw(0)", r, 0, api.OK)
		if r.U8() != 0 {
			t.Error("U8 of nothing")
		}
		stands(t, "behind U8", r, 0, api.ErrShort)
	}
}

// P1.3, R4: a nil Reader.
func TestNilReader(t *testing.T) {
	var r *octet.Reader
	for _, c := range reads {
		if c.some(r) {
			t.Errorf("%s of a nil Reader answers something", c.name)
		}
	}
	same(t, "Raw(0) of a nil Reader", r.Raw(0), nil)
	same(t, "Raw(-1) of a nil Reader", r.Raw(-1), nil)
	stands(t, "a nil Reader", r, 0, api.ErrNil)
}

// P1.3, R3: a Reader neither keeps nor changes what it is made of, nor hands out what it reads from.
func TestReaderSharesNothing(t *testing.T) {
	b := []byte{1, 2, 3, 4, 5, 6}
	r := octet.Read(b)
	clear(b)
	first := r.Raw(2)
	same(t, "behind a change of what was handed in", first, []byte{1, 2})
	_ = append(first, 99, 99)
	second := r.Raw(2)
	same(t, "behind a piece that was made longer", second, []byte{3, 4})
	second[0] = 77
	same(t, "the first piece", first, []byte{1, 2})
	same(t, "the rest", r.Raw(2), []byte{5, 6})
	same(t, "what was handed in", b, make([]byte, 6))
}

// P1.3: two Readers of the same bytes go on each by itself.
func TestReadersGoOnAlone(t *testing.T) {
	b := []byte{1, 2}
	one, two := octet.Read(b), octet.Read(b)
	one.U16()
	one.U8()
	stands(t, "one", one, 0, api.ErrShort)
	stands(t, "two", two, 2, api.OK)
	if x := two.U8(); x != 1 {
		t.Errorf("two: U8: %d", x)
	}
}

// numbers are those of so many bytes that lie at the edge of a bit.
func numbers(size int) []uint64 {
	out := []uint64{0, math.MaxUint64 >> (64 - 8*size)}
	for bit := range 8 * size {
		p := uint64(1) << bit
		out = append(out, p-1, p, p|p>>1, p|1)
	}
	return out
}

// P1.4: what was put is read as the same, and nothing is left.
func TestPutThenRead(t *testing.T) {
	for _, p := range puts {
		for _, x := range numbers(p.size) {
			r := octet.Read(p.put(nil, x))
			if y := p.read(r); y != x {
				t.Errorf("%s: %d is read as %d", p.name, x, y)
			}
			stands(t, p.name, r, 0, api.OK)
		}
	}
	r := octet.Read(octet.Put64(octet.Put16(octet.Put32([]byte{5}, 6), 7), 8))
	if r.U8() != 5 || r.U32() != 6 || r.U16() != 7 || r.U64() != 8 {
		t.Error("several numbers are read otherwise than they were put")
	}
	stands(t, "several numbers", r, 0, api.OK)
}

// P1.4: the bytes of a greater number are greater.
func TestGreaterNumbersHaveGreaterBytes(t *testing.T) {
	for _, p := range puts {
		all := numbers(p.size)
		for _, x := range all {
			for _, y := range all {
				c := bytes.Compare(p.put(nil, x), p.put(nil, y))
				if (c < 0) != (x < y) || (c > 0) != (x > y) {
					t.Errorf("%s: the bytes of %d and %d are in another order", p.name, x, y)
				}
			}
		}
	}
	for x := range math.MaxUint16 {
		if bytes.Compare(octet.Put16(nil, uint16(x)), octet.Put16(nil, uint16(x+1))) >= 0 {
			t.Errorf("16: the bytes of %d are not below those of the next number", x)
		}
	}
}
