package segment_test

import (
	"encoding/binary"
	"fmt"
	"hash/crc32"
	"math"
	"math/big"
	"reflect"
	"slices"
	"testing"

	"heliograph/api"
	"heliograph/segment"
)

// data and report are segments in which no two numbers are the same, so that fields that are mixed up are seen.
func data() api.Segment {
	return api.Segment{Kind: 1, Source: 5, Session: 70000, Offset: 200, Total: 411, Check: true, Serial: 333, Data: fill(4, 40)}
}

func plainData() api.Segment {
	return api.Segment{Kind: 1, Source: 1, Session: 1, Total: 2, Data: []byte{7, 8}}
}

func report() api.Segment {
	return api.Segment{Kind: 2, Source: 4, Session: 129, Serial: 16384, Checks: 500, Lower: 7, Upper: 400, Claims: claims(9, 3, 150, 200, 351, 49)}
}

func ack() api.Segment {
	return api.Segment{Kind: 3, Source: 2, Session: 3, Serial: 300}
}

func cancel() api.Segment {
	return api.Segment{Kind: 4, Source: 3, Session: 9, Reason: 200}
}

func cancelAck() api.Segment {
	return api.Segment{Kind: 5, Source: 3, Session: 1000}
}

func stop() api.Segment {
	return api.Segment{Kind: 6, Source: 6, Session: 128, Reason: 4}
}

func stopAck() api.Segment {
	return api.Segment{Kind: 7, Source: 1, Session: 127}
}

// kinds is one segment of each Kind that may be, and a second one of data.
func kinds() []api.Segment {
	return []api.Segment{data(), plainData(), report(), ack(), cancel(), cancelAck(), stop(), stopAck()}
}

// greatestData has the most bytes of all segments: 122.
func greatestData() api.Segment {
	return api.Segment{Kind: 1, Source: 6, Session: math.MaxUint32, Offset: 412, Total: 512, Check: true, Serial: math.MaxUint32, Data: fill(9, 100)}
}

// greatestReport has 20 claims, all At but one, and three of N, in two bytes.
func greatestReport() api.Segment {
	s := api.Segment{Kind: 2, Source: 6, Session: math.MaxUint32, Serial: math.MaxUint32, Checks: math.MaxUint32, Lower: 0, Upper: 512}
	at := 0
	for i := range 20 {
		n := 1
		if i < 3 {
			n = 128
		}
		s.Claims = append(s.Claims, api.Claim{At: at, N: n})
		at += n + 1
	}
	return s
}

// highReport has the most bytes of all reports: 88. Lower, Upper and each At have two bytes, and two of N.
func highReport() api.Segment {
	s := api.Segment{Kind: 2, Source: 6, Session: math.MaxUint32, Serial: math.MaxUint32, Checks: math.MaxUint32, Lower: 128, Upper: 512}
	at := 128
	for i := range 20 {
		n := 1
		if i < 2 {
			n = 128
		}
		s.Claims = append(s.Claims, api.Claim{At: at, N: n})
		at += n + 1
	}
	return s
}

// fill is n bytes, others for each seed.
func fill(seed, n int) []byte {
	b := make([]byte, n)
	for i := range b {
		b[i] = byte(seed*31 + i*7 + i/256)
	}
	return b
}

// field is a field of type int.
type field struct {
	name string
	of   func(s *api.Segment) *int
}

func intFields() []field {
	return []field{
		{"Kind", func(s *api.Segment) *int { return &s.Kind }},
		{"Source", func(s *api.Segment) *int { return &s.Source }},
		{"Offset", func(s *api.Segment) *int { return &s.Offset }},
		{"Total", func(s *api.Segment) *int { return &s.Total }},
		{"Lower", func(s *api.Segment) *int { return &s.Lower }},
		{"Upper", func(s *api.Segment) *int { return &s.Upper }},
		{"Reason", func(s *api.Segment) *int { return &s.Reason }},
	}
}

// longField is a field of type uint32.
type longField struct {
	name string
	of   func(s *api.Segment) *uint32
}

func longFields() []longField {
	return []longField{
		{"Session", func(s *api.Segment) *uint32 { return &s.Session }},
		{"Serial", func(s *api.Segment) *uint32 { return &s.Serial }},
		{"Checks", func(s *api.Segment) *uint32 { return &s.Checks }},
	}
}

// someInts are at the edges that the chapter names, and far from them; some would be right, if a part of their bits were lost.
func someInts() []int {
	l := []int{-513, -512, -256, -2, -1, 0, 1, 2, 3, 4, 5, 6, 7, 8, 9, 10, 99, 100, 101, 127, 128, 199, 200, 201, 254, 255, 256, 257, 371, 372, 400, 411, 511, 512, 513, 1024, 65536}
	for _, n := range []int{0, 1, 2, 6, 200, 512} {
		l = append(l, n+1<<32, n-1<<32, n+math.MinInt, math.MaxInt-n)
	}
	return l
}

// variants hands on segments of each Kind with each field at each of its edges, both those that may be and others.
func variants(f func(what string, s api.Segment)) {
	for _, s := range append(kinds(), greatestData(), greatestReport(), highReport(), api.Segment{}) {
		tell := func(what string, c api.Segment) {
			f(fmt.Sprintf("Kind %d, %s", s.Kind, what), c)
		}
		tell("as it is", s)
		for _, x := range intFields() {
			for _, n := range someInts() {
				c := deep(s)
				*x.of(&c) = n
				tell(fmt.Sprint(x.name, " ", n), c)
			}
		}
		for _, x := range longFields() {
			for _, n := range []uint32{0, 1, 2, 127, 128, 1 << 31, math.MaxUint32} {
				c := deep(s)
				*x.of(&c) = n
				tell(fmt.Sprint(x.name, " ", n), c)
			}
		}
		c := deep(s)
		c.Check = !c.Check
		tell("Check turned", c)
		for _, n := range []int{0, 1, 2, 39, 41, 99, 100, 101, 102, 512, 513, 70000} {
			c := deep(s)
			c.Data = fill(3, n)
			tell(fmt.Sprint(n, " bytes of Data"), c)
		}
		for i, l := range claimLists() {
			c := deep(s)
			c.Claims = l
			tell(fmt.Sprint("claims ", i), c)
		}
	}
}

// claimLists are claims that go with Lower 7 and Upper 400, or do not.
func claimLists() [][]api.Claim {
	rows := func(n, from, size, gap int) []api.Claim {
		var l []api.Claim
		for i := range n {
			l = append(l, api.Claim{At: from + i*(size+gap), N: size})
		}
		return l
	}
	great := math.MaxInt
	return [][]api.Claim{
		nil, {}, claims(0, 0), claims(7, 393), claims(7, 394), claims(6, 394), claims(6, 1), claims(7, 1), claims(8, 1), claims(399, 1), claims(399, 2), claims(400, 1), claims(400, 0), claims(401, -1), claims(10, 0), claims(10, -1), claims(-1, 9),
		claims(10, 5, 15, 5), claims(10, 5, 16, 5), claims(10, 5, 14, 5), claims(10, 5, 10, 5), claims(16, 5, 10, 5), claims(10, 5, 16, 0), claims(10, 0, 16, 5), claims(10, 5, 16, 384), claims(10, 5, 16, 385),
		claims(10, 2, 13, 2, 16, 2), claims(10, 2, 13, 2, 15, 2), claims(10, 2, 13, 2, 10, 2), claims(10, 2, 13, 2, 16, great),
		rows(19, 7, 2, 1), rows(20, 7, 2, 1), rows(21, 7, 2, 1), rows(20, 7, 2, 0), rows(20, 6, 2, 1), rows(20, 7, 1, 1), rows(21, 7, 1, 1), rows(22, 7, 1, 1), rows(70000, 7, 1, 1),
		claims(great, 1), claims(great, great), claims(1, great), claims(10, great), claims(10, great-9), claims(10, great-10), claims(great-3, 5), claims(great, math.MinInt), claims(math.MinInt, great), claims(math.MinInt, math.MinInt), claims(10, math.MinInt), claims(1<<32+10, 1), claims(10, 1<<32+1),
		claims(10, 5, great, 1), claims(10, 5, great, great), claims(10, great, 16, 1), claims(great, 2, 10, 1),
	}
}

// claims are those of so many pairs of At and N.
func claims(l ...int) []api.Claim {
	var out []api.Claim
	for i := 0; i+1 < len(l); i += 2 {
		out = append(out, api.Claim{At: l[i], N: l[i+1]})
	}
	return out
}

// may is whether a segment may be, told once more: with numbers without end, and the fields that count in a row of their own.
func may(s api.Segment) bool {
	counts := map[int][]string{1: {"Offset", "Total", "Data", "Check", "Serial"}, 2: {"Serial", "Checks", "Lower", "Upper", "Claims"}, 3: {"Serial"}, 4: {"Reason"}, 5: {}, 6: {"Reason"}, 7: {}}
	fields, there := counts[s.Kind]
	set := map[string]bool{
		"Offset": s.Offset != 0, "Total": s.Total != 0, "Data": len(s.Data) != 0, "Check": s.Check, "Serial": s.Serial != 0, "Checks": s.Checks != 0,
		"Lower": s.Lower != 0, "Upper": s.Upper != 0, "Claims": len(s.Claims) != 0, "Reason": s.Reason != 0,
	}
	for name, isSet := range set {
		if isSet && !slices.Contains(fields, name) {
			return false
		}
	}
	if !there || s.Source < 1 || s.Source > 6 || s.Session == 0 {
		return false
	}
	switch s.Kind {
	case 1:
		return s.Total >= 1 && s.Total <= 512 && len(s.Data) >= 1 && len(s.Data) <= 100 && s.Offset >= 0 &&
			end(s.Offset, len(s.Data)).Cmp(big.NewInt(int64(s.Total))) <= 0 && (s.Check && s.Serial > 0 || !s.Check && s.Serial == 0)
	case 2:
		return s.Serial > 0 && s.Checks > 0 && s.Lower >= 0 && s.Lower < s.Upper && s.Upper <= 512 && len(s.Claims) <= 20 && mayClaim(s)
	case 3:
		return s.Serial > 0
	case 4, 6:
		return s.Reason >= 0 && s.Reason <= 255
	}
	return true
}

func mayClaim(s api.Segment) bool {
	for i, c := range s.Claims {
		if c.N <= 0 || c.At < s.Lower || end(c.At, c.N).Cmp(big.NewInt(int64(s.Upper))) > 0 {
			return false
		}
		if i > 0 && end(s.Claims[i-1].At, s.Claims[i-1].N).Cmp(big.NewInt(int64(c.At))) >= 0 {
			return false
		}
	}
	return true
}

func end(at, n int) *big.Int {
	return new(big.Int).Add(big.NewInt(int64(at)), big.NewInt(int64(n)))
}

// right are segments that may be.
func right() []api.Segment {
	l := append(kinds(), greatestData(), greatestReport(), highReport())
	variants(func(_ string, s api.Segment) {
		if may(s) {
			l = append(l, s)
		}
	})
	d := dice(17)
	for range 500 {
		l = append(l, d.segment())
	}
	return l
}

// dice is a row of numbers that is the same at each run.
type dice uint64

func (d *dice) below(n int) int {
	*d = *d*6364136223846793005 + 1442695040888963407
	return int(uint64(*d>>33) % uint64(n))
}

func (d *dice) long() uint32 {
	return uint32(d.below(math.MaxUint32)>>d.below(31)) + 1
}

// segment is one that may be, with numbers of each length.
func (d *dice) segment() api.Segment {
	s := api.Segment{Kind: 1 + d.below(7), Source: 1 + d.below(6), Session: d.long()}
	switch s.Kind {
	case 1:
		s.Total = 1 + d.below(512)
		n := 1 + d.below(min(100, s.Total))
		s.Offset, s.Data = d.below(s.Total-n+1), fill(d.below(99), n)
		if d.below(2) == 1 {
			s.Check, s.Serial = true, d.long()
		}
	case 2:
		s.Serial, s.Checks = d.long(), d.long()
		s.Lower = d.below(512)
		s.Upper = s.Lower + 1 + d.below(512-s.Lower)
		for at := s.Lower + d.below(9); at < s.Upper && len(s.Claims) < 20; {
			n := 1 + d.below(min(s.Upper-at, 1+d.below(200)))
			s.Claims = append(s.Claims, api.Claim{At: at, N: n})
			at += n + 1 + d.below(20)
		}
	case 3:
		s.Serial = d.long()
	case 4, 6:
		s.Reason = d.below(256)
	}
	return s
}

// alike is Same, told once more.
func alike(a, b api.Segment) bool {
	if string(a.Data) != string(b.Data) || fmt.Sprint(a.Claims) != fmt.Sprint(b.Claims) {
		return false
	}
	a.Data, a.Claims, b.Data, b.Claims = nil, nil, nil, nil
	return reflect.DeepEqual(a, b)
}

func deep(s api.Segment) api.Segment {
	s.Data, s.Claims = slices.Clone(s.Data), slices.Clone(s.Claims)
	return s
}

// The bytes, told once more, without the layers below.

func number(n uint64) []byte {
	b := []byte{byte(n & 127)}
	for n /= 128; n > 0; n /= 128 {
		b = append([]byte{128 | byte(n&127)}, b...)
	}
	return b
}

func numbers(l ...uint64) []byte {
	var b []byte
	for _, n := range l {
		b = append(b, number(n)...)
	}
	return b
}

func sealed(b []byte) []byte {
	return binary.BigEndian.AppendUint32(slices.Clone(b), crc32.Checksum(b, crc32.MakeTable(crc32.Castagnoli)))
}

// bare are the bytes of a segment without the checksum.
func bare(s api.Segment) []byte {
	return slices.Concat([]byte{byte(s.Kind)}, numbers(numbersOf(s)...), s.Data)
}

// numbersOf are the numbers behind a segment's Kind.
func numbersOf(s api.Segment) []uint64 {
	l := []uint64{uint64(s.Source), uint64(s.Session)}
	switch {
	case s.Kind == 1 && s.Check:
		l = append(l, 1, uint64(s.Serial), uint64(s.Offset), uint64(s.Total), uint64(len(s.Data)))
	case s.Kind == 1:
		l = append(l, 0, uint64(s.Offset), uint64(s.Total), uint64(len(s.Data)))
	case s.Kind == 2:
		l = append(l, uint64(s.Serial), uint64(s.Checks), uint64(s.Lower), uint64(s.Upper), uint64(len(s.Claims)))
		for _, c := range s.Claims {
			l = append(l, uint64(c.At), uint64(c.N))
		}
	case s.Kind == 3:
		l = append(l, uint64(s.Serial))
	case s.Kind == 4 || s.Kind == 6:
		l = append(l, uint64(s.Reason))
	}
	return l
}

func plain(s api.Segment) []byte {
	return sealed(bare(s))
}

// told is Decode, told once more: each number as it stands, held against the row that it makes.
func told(b []byte) (api.Segment, api.Errno) {
	if len(b) < 7 {
		return api.Segment{}, api.ErrShort
	}
	body := b[:len(b)-4]
	if string(sealed(body)) != string(b) {
		return api.Segment{}, api.ErrSum
	}
	p := parser{left: body[1:]}
	s := p.segment(int(body[0]))
	if p.bad || len(p.left) > 0 || !may(s) {
		return api.Segment{}, api.ErrSegment
	}
	return s, api.OK
}

// parser takes numbers from the front; once it is bad it stays so.
type parser struct {
	left []byte
	bad  bool
}

func (p *parser) number(most uint64) uint64 {
	n := new(big.Int)
	for i, x := range p.left {
		n.Add(n.Mul(n, big.NewInt(128)), big.NewInt(int64(x%128)))
		if x < 128 {
			if n.IsUint64() && n.Uint64() <= most && string(number(n.Uint64())) == string(p.left[:i+1]) {
				p.left = p.left[i+1:]
				return n.Uint64()
			}
			break
		}
	}
	p.bad, p.left = true, nil
	return 0
}

func (p *parser) segment(kind int) api.Segment {
	const great = math.MaxInt64 // an int that no field may be
	long := func() uint32 { return uint32(p.number(math.MaxUint32)) }
	s := api.Segment{Kind: kind, Source: int(p.number(great)), Session: long()}
	switch kind {
	case 1:
		if p.number(1) == 1 {
			s.Check, s.Serial = true, long()
		}
		s.Offset, s.Total = int(p.number(great)), int(p.number(great))
		n := p.number(great)
		if n > uint64(len(p.left)) {
			p.bad = true
			break
		}
		s.Data, p.left = p.left[:n], p.left[n:]
	case 2:
		s.Serial, s.Checks, s.Lower, s.Upper = long(), long(), int(p.number(great)), int(p.number(great))
		for n := p.number(great); n > 0 && !p.bad; n-- {
			s.Claims = append(s.Claims, api.Claim{At: int(p.number(great)), N: int(p.number(great))})
		}
	case 3:
		s.Serial = long()
	case 4, 6:
		s.Reason = int(p.number(great))
	}
	return s
}

// cut tells bytes without all of them.
func cut(b []byte) string {
	return fmt.Sprintf("(%d) % x", len(b), b[:min(40, len(b))])
}

// refuses asks for an error, and zeros beside it.
func refuses(t *testing.T, what string, b []byte, want api.Errno) {
	t.Helper()
	s, e := segment.Decode(b)
	if e != want || !alike(s, api.Segment{}) {
		t.Errorf("%s: Decode %s: %v, error %d; want nothing, error %d", what, cut(b), s, e, want)
	}
	if _, e := told(b); e != want {
		t.Errorf("%s: told otherwise: error %d, want %d", what, e, want)
	}
}

// decodes asks for a segment.
func decodes(t *testing.T, what string, b []byte, want api.Segment) {
	t.Helper()
	s, e := segment.Decode(b)
	if e != api.OK || !alike(s, want) {
		t.Errorf("%s: Decode %s: %v, error %d; want %v", what, cut(b), s, e, want)
	}
}

// asTold holds Decode against what is told.
func asTold(t *testing.T, what string, b []byte) api.Errno {
	t.Helper()
	want, e := told(b)
	if e == api.OK {
		decodes(t, what, b, want)
	} else {
		refuses(t, what, b, e)
	}
	return e
}
