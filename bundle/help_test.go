package bundle_test

import (
	"bytes"
	"encoding/binary"
	"fmt"
	"hash/crc32"
	"math"
	"math/bits"
	"slices"
	"testing"

	"heliograph/api"
	"heliograph/bundle"
)

// example is the chapter's bundle.
func example() api.Bundle {
	return api.Bundle{Source: 1, Dest: 2, Seq: 1, Created: 0, Lifetime: 10, HopLimit: 4, Hops: 0, Priority: 1, Offset: 0, Total: 2, Payload: []byte{5, 6}}
}

// unlike is a piece in which no two numbers are the same, so that fields that are mixed up are seen.
func unlike() api.Bundle {
	return api.Bundle{Source: 5, Dest: 3, Seq: 70000, Created: 1000, Lifetime: 300, HopLimit: 16, Hops: 9, Priority: 2, Offset: 30, Total: 390, Payload: fill(4, 40)}
}

// greatest has the most bytes of all.
func greatest() api.Bundle {
	return api.Bundle{Source: 6, Dest: 6, Seq: math.MaxUint32, Created: 1 << 20, Lifetime: 1 << 20, HopLimit: 16, Hops: 16, Priority: 2, Offset: 0, Total: 400, Payload: fill(9, 400)}
}

// least has the fewest.
func least() api.Bundle {
	return api.Bundle{Source: 1, Dest: 1, Seq: 1, Lifetime: 1, HopLimit: 1, Total: 1, Payload: []byte{0}}
}

// fill is n bytes, others for each seed.
func fill(seed, n int) []byte {
	b := make([]byte, n)
	for i := range b {
		b[i] = byte(seed*31 + i*7 + i/256)
	}
	return b
}

// change is one thing that is done to a bundle, and whether it may be then.
type change struct {
	what string
	do   func(b *api.Bundle)
	may  bool
}

// ends are a field, and the least and the greatest number that it may be in the chapter's example.
type ends struct {
	name        string
	of          func(b *api.Bundle) *int
	least, most int
}

// intFields are all fields that are of type int.
func intFields() []ends {
	return []ends{
		{"Source", func(b *api.Bundle) *int { return &b.Source }, 1, 6},
		{"Dest", func(b *api.Bundle) *int { return &b.Dest }, 1, 6},
		{"Created", func(b *api.Bundle) *int { return &b.Created }, 0, 1048576},
		{"Lifetime", func(b *api.Bundle) *int { return &b.Lifetime }, 1, 1048576},
		{"HopLimit", func(b *api.Bundle) *int { return &b.HopLimit }, 1, 16},
		{"Hops", func(b *api.Bundle) *int { return &b.Hops }, 0, 4},
		{"Priority", func(b *api.Bundle) *int { return &b.Priority }, 0, 2},
		{"Offset", func(b *api.Bundle) *int { return &b.Offset }, 0, 0},
		{"Total", func(b *api.Bundle) *int { return &b.Total }, 2, 400},
	}
}

// farNumbers are no field's, though some are, if a part of their bits is lost.
func farNumbers() []int {
	var l []int
	for _, n := range []int{0, 1, 2, 4, 10} {
		l = append(l, n+1<<32, n-1<<32, n+1<<33, n+math.MinInt)
	}
	return append(l, -2, -256, 1<<21, 1<<31-1, 1<<31, 1<<40, math.MaxInt-1, math.MaxInt)
}

// changes are what the chapter's edges make of its example.
func changes() []change {
	var l []change
	for _, f := range intFields() {
		set := func(n int) {
			l = append(l, change{fmt.Sprint(f.name, " ", n), func(b *api.Bundle) { *f.of(b) = n }, f.least <= n && n <= f.most})
		}
		for _, n := range []int{-1, 0, 1, f.least - 1, f.least, f.least + 1, f.most - 1, f.most, f.most + 1, 2 * f.most} {
			set(n)
		}
		for _, n := range farNumbers() {
			set(n)
		}
	}
	return append(l, otherChanges()...)
}

func otherChanges() []change {
	l := []change{
		{"nothing", func(b *api.Bundle) {}, true},
		{"all zero", func(b *api.Bundle) { *b = api.Bundle{} }, false},
		{"Seq 0", func(b *api.Bundle) { b.Seq = 0 }, false},
		{"Seq 2", func(b *api.Bundle) { b.Seq = 2 }, true},
		{"Seq 2^31", func(b *api.Bundle) { b.Seq = 1 << 31 }, true},
		{"Seq 2^32 - 1", func(b *api.Bundle) { b.Seq = math.MaxUint32 }, true},
		{"Source is Dest", func(b *api.Bundle) { b.Source = b.Dest }, true},
		{"Created and Lifetime MaxTick", func(b *api.Bundle) { b.Created, b.Lifetime = 1<<20, 1<<20 }, true},
		{"Created and Lifetime the greatest int", func(b *api.Bundle) { b.Created, b.Lifetime = math.MaxInt, math.MaxInt }, false},
		{"Hops, HopLimit 16, 16", func(b *api.Bundle) { b.Hops, b.HopLimit = 16, 16 }, true},
		{"Hops, HopLimit 17, 16", func(b *api.Bundle) { b.Hops, b.HopLimit = 17, 16 }, false},
		{"Hops, HopLimit 17, 17", func(b *api.Bundle) { b.Hops, b.HopLimit = 17, 17 }, false},
		{"Hops, HopLimit 1, 1", func(b *api.Bundle) { b.Hops, b.HopLimit = 1, 1 }, true},
		{"Hops, HopLimit 2, 1", func(b *api.Bundle) { b.Hops, b.HopLimit = 2, 1 }, false},
		{"Hops, HopLimit 0, 0", func(b *api.Bundle) { b.Hops, b.HopLimit = 0, 0 }, false},
		{"Hops, HopLimit -1, -1", func(b *api.Bundle) { b.Hops, b.HopLimit = -1, -1 }, false},
		{"Payload nil", func(b *api.Bundle) { b.Payload = nil }, false},
		{"Payload empty", func(b *api.Bundle) { b.Payload = []byte{} }, false},
		{"Payload nil, Total 0", func(b *api.Bundle) { b.Payload, b.Total = nil, 0 }, false},
		{"Payload empty, Offset at Total", func(b *api.Bundle) { b.Payload, b.Offset = []byte{}, 2 }, false},
	}
	for _, r := range []struct {
		offset, n, total int
		may              bool
	}{
		{0, 1, 0, false}, {0, 1, 1, true}, {1, 1, 1, false}, {0, 2, 1, false}, {1, 1, 2, true}, {2, 1, 2, false}, {-1, 1, 1, false}, {-1, 2, 1, false},
		{0, 2, 3, true}, {1, 2, 3, true}, {2, 2, 3, false}, {3, 2, 3, false}, {0, 399, 400, true}, {1, 399, 400, true}, {2, 399, 400, false},
		{0, 400, 400, true}, {1, 400, 400, false}, {-1, 400, 400, false}, {0, 401, 400, false}, {-1, 401, 400, false}, {0, 401, 401, false}, {0, 400, 401, false},
		{399, 1, 400, true}, {400, 1, 400, false}, {399, 2, 400, false}, {398, 2, 400, true}, {400, 1, 401, false}, {0, 1, 401, false}, {0, 70000, 70000, false},
		{math.MaxInt, 1, 400, false}, {math.MaxInt - 1, 2, 400, false}, {math.MaxInt, 1, math.MaxInt, false}, {math.MaxInt - 1, 1, math.MaxInt, false},
		{math.MinInt, 1, 400, false}, {0, 1, math.MinInt, false}, {1, 400, math.MinInt, false}, {math.MaxInt, 400, math.MinInt, false}, {math.MinInt, 400, math.MinInt, false},
	} {
		do := func(b *api.Bundle) { b.Offset, b.Payload, b.Total = r.offset, fill(1, r.n), r.total }
		l = append(l, change{fmt.Sprintf("%d bytes from %d on of %d", r.n, r.offset, r.total), do, r.may})
	}
	return l
}

// each hands on the example behind each change.
func each(f func(what string, b api.Bundle, may bool)) {
	for _, c := range changes() {
		b := example()
		c.do(&b)
		f(c.what, b, c.may)
	}
}

// right are bundles that may be.
func right() []api.Bundle {
	l := []api.Bundle{example(), unlike(), greatest(), least()}
	each(func(_ string, b api.Bundle, may bool) {
		if may {
			l = append(l, b)
		}
	})
	d := dice(17)
	for range 300 {
		l = append(l, d.bundle())
	}
	return l
}

// dice is a row of numbers that is the same at each run.
type dice uint64

func (d *dice) below(n int) int {
	*d = *d*6364136223846793005 + 1442695040888963407
	return int(uint64(*d>>33) % uint64(n))
}

// bundle is one that may be, with numbers of each length.
func (d *dice) bundle() api.Bundle {
	moments := []int{1, 22, 23, 24, 255, 256, 65535, 65536, 1 << 20}
	limit, total := 1+d.below(16), 1+d.below(400)
	n := 1 + d.below(total)
	return api.Bundle{
		Source: 1 + d.below(6), Dest: 1 + d.below(6), Seq: uint32(d.below(math.MaxUint32)>>d.below(32)) + 1,
		Created: d.below(1 + moments[d.below(9)]), Lifetime: 1 + d.below(moments[d.below(9)]),
		HopLimit: limit, Hops: d.below(limit + 1), Priority: d.below(3),
		Offset: d.below(total - n + 1), Total: total, Payload: fill(d.below(99), n),
	}
}

// alike is Same, told once more.
func alike(a, b api.Bundle) bool {
	for _, f := range intFields() {
		if *f.of(&a) != *f.of(&b) {
			return false
		}
	}
	return a.Seq == b.Seq && string(a.Payload) == string(b.Payload)
}

func deep(b api.Bundle) api.Bundle {
	b.Payload = slices.Clone(b.Payload)
	return b
}

// cut tells bytes without all of them.
func cut(b []byte) string {
	return fmt.Sprintf("(%d) % x", len(b), b[:min(40, len(b))])
}

// The bytes, told once more, without the layers below.

func head(kind int, n uint64) []byte {
	b := binary.BigEndian.AppendUint64(nil, n)
	first := byte(32 * kind)
	switch {
	case n <= 23:
		return []byte{first + byte(n)}
	case n <= 255:
		return append([]byte{first + 24}, b[7:]...)
	case n <= 65535:
		return append([]byte{first + 25}, b[6:]...)
	case n <= 4294967295:
		return append([]byte{first + 26}, b[4:]...)
	}
	return append([]byte{first + 27}, b...)
}

func number(n uint64) []byte {
	return head(0, n)
}

func raw(b []byte) []byte {
	return slices.Concat(head(2, uint64(len(b))), b)
}

func list(l ...[]byte) []byte {
	return slices.Concat(head(4, uint64(len(l))), slices.Concat(l...))
}

func numbers(l ...uint64) []byte {
	var rows [][]byte
	for _, n := range l {
		rows = append(rows, number(n))
	}
	return list(rows...)
}

// crc16 goes through the bits the other way round than package sum.
func crc16(b []byte) uint16 {
	crc := uint16(0xffff)
	for _, x := range b {
		crc ^= uint16(bits.Reverse8(x)) << 8
		for range 8 {
			top := crc >> 15
			crc = crc<<1 ^ top*0x1021
		}
	}
	return ^bits.Reverse16(crc)
}

func sealed16(b []byte) []byte {
	return binary.LittleEndian.AppendUint16(slices.Clone(b), crc16(b))
}

func sealed32(b []byte) []byte {
	return binary.LittleEndian.AppendUint32(slices.Clone(b), crc32.Checksum(b, crc32.MakeTable(crc32.Castagnoli)))
}

// tenOf are the numbers of a bundle's first block.
func tenOf(b api.Bundle) []uint64 {
	return []uint64{7, uint64(b.Dest), uint64(b.Source), uint64(b.Seq), uint64(b.Created), uint64(b.Lifetime), uint64(b.Offset), uint64(b.Total), uint64(b.Priority), uint64(b.HopLimit)}
}

// packed are the bytes of any first block, count of hops and payload, the sums right.
func packed(first []byte, hops uint64, payload []byte) []byte {
	return list(raw(sealed16(first)), number(hops), raw(sealed32(payload)))
}

// plain are the bytes of a bundle, told once more.
func plain(b api.Bundle) []byte {
	return packed(numbers(tenOf(b)...), uint64(b.Hops), b.Payload)
}

// told is Decode, told once more: with the numbers as they stand, and no bytes made anew.
func told(b []byte) (api.Bundle, api.Errno) {
	p := parser{left: b}
	p.head(4, 3)
	first, hops, payload := p.raw(), p.number(), p.raw()
	if p.bad || len(p.left) > 0 {
		return api.Bundle{}, api.ErrBundle
	}
	n, m := len(first)-2, len(payload)-4
	if n < 0 || m < 0 || string(sealed16(first[:n])) != string(first) || string(sealed32(payload[:m])) != string(payload) {
		return api.Bundle{}, api.ErrSum
	}
	q := parser{left: first[:n]}
	q.head(4, 10)
	var x [10]uint64
	for i := range x {
		x[i] = q.number()
	}
	if q.bad || len(q.left) > 0 || !toldMay(x, hops, uint64(m)) {
		return api.Bundle{}, api.ErrBundle
	}
	return api.Bundle{
		Dest: int(x[1]), Source: int(x[2]), Seq: uint32(x[3]), Created: int(x[4]), Lifetime: int(x[5]),
		Offset: int(x[6]), Total: int(x[7]), Priority: int(x[8]), HopLimit: int(x[9]), Hops: int(hops), Payload: payload[:m],
	}, api.OK
}

func toldMay(x [10]uint64, hops, n uint64) bool {
	from := func(x, least, most uint64) bool { return x >= least && x <= most }
	return x[0] == 7 && from(x[1], 1, 6) && from(x[2], 1, 6) && from(x[3], 1, 4294967295) &&
		from(x[4], 0, 1048576) && from(x[5], 1, 1048576) && from(x[7], 1, 400) && from(n, 1, x[7]) && from(x[6], 0, x[7]-n) &&
		from(x[8], 0, 2) && from(x[9], 1, 16) && from(hops, 0, x[9])
}

// parser takes items from the front; once it is bad it stays so.
type parser struct {
	left []byte
	bad  bool
}

// take takes a head of that kind, and answers its number.
func (p *parser) take(kind int, most uint64) uint64 {
	for _, size := range []int{1, 2, 3, 5, 9} {
		if p.bad || len(p.left) < size {
			break
		}
		n := binary.BigEndian.Uint64(append(make([]byte, 8-(size-1)), p.left[1:size]...))
		if size == 1 {
			n = uint64(p.left[0] % 32)
		}
		if n <= most && (size > 1 || n <= 23) && bytes.Equal(head(kind, n), p.left[:size]) {
			p.left = p.left[size:]
			return n
		}
	}
	p.bad = true
	return 0
}

func (p *parser) head(kind int, n uint64) {
	if p.take(kind, n) != n {
		p.bad = true
	}
}

func (p *parser) number() uint64 {
	return p.take(0, math.MaxUint64)
}

func (p *parser) raw() []byte {
	n := p.take(2, 512)
	if p.bad || uint64(len(p.left)) < n {
		p.bad = true
		return nil
	}
	b := p.left[:n]
	p.left = p.left[n:]
	return b
}

// refuses asks for an error, and zeros beside it.
func refuses(t *testing.T, what string, b []byte, want api.Errno) {
	t.Helper()
	x, e := bundle.Decode(b)
	if e != want || !alike(x, api.Bundle{}) {
		t.Errorf("%s: Decode %s: %v, error %d; want nothing, error %d", what, cut(b), x, e, want)
	}
	if _, e := told(b); e != want {
		t.Errorf("%s: told otherwise: error %d, want %d", what, e, want)
	}
}

// decodes asks for a bundle.
func decodes(t *testing.T, what string, b []byte, want api.Bundle) {
	t.Helper()
	x, e := bundle.Decode(b)
	if e != api.OK || !alike(x, want) {
		t.Errorf("%s: Decode %s: %v, error %d; want %v", what, cut(b), x, e, want)
	}
}

// asTold holds Decode against what is told.
func asTold(t *testing.T, what string, b []byte) api.Errno {
	t.Helper()
	want, e := told(b)
	if e == api.OK {
		decodes(t, what, b, want)
	} else {
		refuses(t, what, b, e)
	}
	return e
}
