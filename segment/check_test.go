package segment_test

import (
	"fmt"
	"math"
	"slices"
	"testing"

	"heliograph/api"
	"heliograph/segment"
)

// P10.1: the numbers of package api are those that the chapter says.
func TestNumbers(t *testing.T) {
	if api.SegData != 1 || api.SegReport != 2 || api.SegReportAck != 3 || api.SegCancel != 4 || api.SegCancelAck != 5 || api.SegStop != 6 || api.SegStopAck != 7 {
		t.Error("a Kind has another number than the chapter says")
	}
	if api.ErrSegment != 200 || api.ErrSum != 130 || api.MaxNodes != 6 || api.MaxBlock != 512 || api.MaxData != 100 || api.MaxClaims != 20 {
		t.Error("a number of package api is another one than the document says")
	}
}

func checks(t *testing.T, what string, s api.Segment, ok bool) {
	t.Helper()
	want := api.ErrSegment
	if ok {
		want = api.OK
	}
	if e := segment.Check(s); e != want {
		t.Errorf("%s: Check: %d, want %d", what, e, want)
	}
	if may(s) != ok {
		t.Errorf("%s: told otherwise", what)
	}
}

// P10.1: the chapter's examples, and one segment of each Kind.
func TestCheckExamples(t *testing.T) {
	for _, s := range append(kinds(), greatestData(), greatestReport(), highReport()) {
		checks(t, fmt.Sprint("Kind ", s.Kind), s, true)
	}
	checks(t, "Kind 9", api.Segment{Kind: 9, Source: 1, Session: 1}, false)
	checks(t, "no Data", api.Segment{Kind: 1, Source: 1, Session: 1, Total: 2}, false)
	s := api.Segment{Kind: 2, Source: 1, Session: 1, Serial: 1, Checks: 1, Upper: 3, Claims: claims(0, 2, 2, 1)}
	checks(t, "claims that touch", s, false)
	s.Claims = claims(0, 1, 2, 1)
	checks(t, "claims with a byte between", s, true)
}

// P10.1: each Kind, with nothing but Source and Session, and with the fields of each other one.
func TestCheckOfEachKind(t *testing.T) {
	for _, kind := range []int{math.MinInt, -1, 0, 1, 2, 3, 4, 5, 6, 7, 8, 9, 255, 256, 257, 259, 261, 263, 1 << 32, 1<<32 + 5, math.MaxInt} {
		s := api.Segment{Kind: kind, Source: 1, Session: 1}
		checks(t, fmt.Sprint("nothing but Kind ", kind), s, kind >= 4 && kind <= 7)
		for _, other := range kinds() {
			was := other.Kind
			other.Kind = kind
			ok := kind == was || kind >= 4 && kind <= 7 && was >= 4 && was <= 7 && (other.Reason == 0 || kind == 4 || kind == 6)
			checks(t, fmt.Sprint("Kind ", kind, " with the fields of ", was), other, ok)
		}
	}
	checks(t, "nothing", api.Segment{}, false)
}

// P10.1: Source and Session, of each Kind.
func TestCheckOfTheSession(t *testing.T) {
	for _, s := range kinds() {
		for source, ok := range map[int]bool{math.MinInt: false, -1: false, 0: false, 1: true, 2: true, 5: true, 6: true, 7: false, 1<<32 + 1: false, math.MaxInt: false} {
			c := s
			c.Source = source
			checks(t, fmt.Sprint("Kind ", s.Kind, ", Source ", source), c, ok)
		}
		for session, ok := range map[uint32]bool{0: false, 1: true, 2: true, 1 << 31: true, math.MaxUint32: true} {
			c := s
			c.Session = session
			checks(t, fmt.Sprint("Kind ", s.Kind, ", Session ", session), c, ok)
		}
	}
}

// P10.1: the edges of data.
func TestCheckOfData(t *testing.T) {
	great := math.MaxInt
	for _, r := range []struct {
		offset, n, total int
		ok               bool
	}{
		{0, 1, 0, false}, {0, 1, 1, true}, {1, 1, 1, false}, {0, 2, 1, false}, {-1, 1, 1, false}, {-1, 2, 1, false}, {0, 0, 1, false}, {1, 0, 1, false}, {0, 0, 0, false},
		{0, 2, 2, true}, {1, 2, 3, true}, {2, 2, 3, false}, {0, 1, 512, true}, {511, 1, 512, true}, {512, 1, 512, false}, {0, 1, 513, false}, {512, 1, 513, false},
		{0, 100, 100, true}, {0, 100, 99, false}, {0, 100, 512, true}, {412, 100, 512, true}, {413, 100, 512, false}, {0, 101, 512, false}, {0, 101, 101, false}, {0, 99, 100, true}, {1, 99, 100, true}, {2, 99, 100, false},
		{412, 101, 513, false}, {-1, 100, 512, false}, {0, 512, 512, false}, {0, 70000, 70000, false},
		{great, 1, 512, false}, {great - 1, 2, 512, false}, {great, 1, great, false}, {great - 1, 1, great, false}, {math.MinInt, 1, 512, false}, {0, 1, math.MinInt, false}, {great, 1, math.MinInt, false},
		{math.MinInt, 1, math.MinInt, false}, {great - 99, 100, math.MinInt, false}, {1 << 32, 1, 512, false}, {0, 1, 1<<32 + 1, false}, {0, 1, great, false},
	} {
		s := api.Segment{Kind: 1, Source: 1, Session: 1, Offset: r.offset, Total: r.total, Data: fill(1, r.n)}
		what := fmt.Sprintf("%d bytes from %d on of %d", r.n, r.offset, r.total)
		checks(t, what, s, r.ok)
		s.Serial = 1
		checks(t, what+", Serial without Check", s, false)
		s.Check = true
		checks(t, what+", Check", s, r.ok)
		s.Serial = math.MaxUint32
		checks(t, what+", the greatest Serial", s, r.ok)
		s.Serial = 0
		checks(t, what+", Check without Serial", s, false)
	}
}

// P10.1: each place of Data of some lengths in each block of some lengths.
func TestCheckOfEachPlace(t *testing.T) {
	all := fill(3, 101)
	for _, total := range []int{-1, 0, 1, 2, 3, 99, 100, 101, 511, 512, 513} {
		for _, n := range []int{0, 1, 2, 50, 99, 100, 101} {
			for offset := -2; offset <= 514; offset++ {
				s := plainData()
				s.Offset, s.Total, s.Data = offset, total, all[:n]
				checks(t, fmt.Sprintf("%d bytes from %d on of %d", n, offset, total), s, total >= 1 && total <= 512 && n >= 1 && n <= 100 && offset >= 0 && offset+n <= total)
			}
		}
	}
}

// P10.1: the edges of reports, without claims.
func TestCheckOfReports(t *testing.T) {
	for _, r := range []struct {
		serial, checks uint32
		lower, upper   int
		ok             bool
	}{
		{1, 1, 0, 1, true}, {0, 1, 0, 1, false}, {1, 0, 0, 1, false}, {0, 0, 0, 1, false}, {math.MaxUint32, math.MaxUint32, 0, 512, true}, {2, 1, 0, 512, true}, {1, 2, 0, 512, true},
		{1, 1, 0, 0, false}, {1, 1, -1, 0, false}, {1, 1, -1, 1, false}, {1, 1, -1, 512, false}, {1, 1, 0, -1, false}, {1, 1, 5, 5, false}, {1, 1, 5, 6, true}, {1, 1, 6, 5, false},
		{1, 1, 511, 512, true}, {1, 1, 512, 512, false}, {1, 1, 0, 513, false}, {1, 1, 512, 513, false}, {1, 1, 511, 513, false},
		{1, 1, 0, math.MinInt, false}, {1, 1, 5, math.MinInt, false}, {1, 1, math.MaxInt, math.MinInt, false}, {1, 1, math.MinInt, math.MinInt, false}, {1, 1, math.MinInt, 512, false}, {1, 1, math.MinInt, 0, false},
		{1, 1, 0, math.MaxInt, false}, {1, 1, math.MaxInt, 512, false}, {1, 1, math.MaxInt - 1, math.MaxInt, false}, {1, 1, 1 << 32, 512, false}, {1, 1, 0, 1<<32 + 1, false},
	} {
		s := api.Segment{Kind: 2, Source: 1, Session: 1, Serial: r.serial, Checks: r.checks, Lower: r.lower, Upper: r.upper}
		checks(t, fmt.Sprintf("report %d of %d, %d to %d", r.serial, r.checks, r.lower, r.upper), s, r.ok)
		s.Claims = []api.Claim{}
		checks(t, "with an empty list of claims", s, r.ok)
	}
}

// P10.1: the edges of claims, with Lower 7 and Upper 400.
func TestCheckOfClaims(t *testing.T) {
	great := math.MaxInt
	for _, r := range []struct {
		claims []int
		ok     bool
	}{
		{nil, true}, {[]int{7, 393}, true}, {[]int{7, 1}, true}, {[]int{399, 1}, true}, {[]int{50, 1}, true},
		{[]int{6, 1}, false}, {[]int{6, 2}, false}, {[]int{0, 1}, false}, {[]int{-1, 20}, false}, {[]int{6, 394}, false},
		{[]int{7, 394}, false}, {[]int{399, 2}, false}, {[]int{400, 1}, false}, {[]int{401, 1}, false},
		{[]int{50, 0}, false}, {[]int{7, 0}, false}, {[]int{400, 0}, false}, {[]int{50, -1}, false}, {[]int{401, -1}, false},
		{[]int{10, 5, 16, 5}, true}, {[]int{10, 5, 15, 5}, false}, {[]int{10, 5, 14, 5}, false}, {[]int{10, 5, 10, 5}, false}, {[]int{10, 5, 10, 6}, false}, {[]int{16, 5, 10, 5}, false}, {[]int{10, 5, 7, 1}, false},
		{[]int{10, 5, 16, 0}, false}, {[]int{10, 0, 16, 5}, false}, {[]int{10, 5, 16, 384}, true}, {[]int{10, 5, 16, 385}, false}, {[]int{7, 1, 9, 1, 11, 389}, true}, {[]int{7, 1, 9, 1, 10, 1}, false}, {[]int{7, 1, 9, 1, 7, 1}, false},
		{[]int{great, 1}, false}, {[]int{great, great}, false}, {[]int{10, great}, false}, {[]int{10, great - 9}, false}, {[]int{great - 3, 5}, false}, {[]int{great, math.MinInt}, false}, {[]int{math.MinInt, great}, false}, {[]int{10, math.MinInt}, false},
		{[]int{10, great, 16, 1}, false}, {[]int{10, 5, great, 1}, false}, {[]int{10, 5, great, great}, false}, {[]int{1<<32 + 10, 1}, false}, {[]int{10, 1<<32 + 1}, false},
	} {
		s := api.Segment{Kind: 2, Source: 1, Session: 1, Serial: 1, Checks: 1, Lower: 7, Upper: 400, Claims: claims(r.claims...)}
		checks(t, fmt.Sprint("claims ", r.claims), s, r.ok)
	}
	s := api.Segment{Kind: 2, Source: 1, Session: 1, Serial: 1, Checks: 1, Upper: 512}
	for n := range 60 {
		checks(t, fmt.Sprint(n, " claims"), s, n <= 20)
		s.Claims = append(s.Claims, api.Claim{At: 2 * n, N: 1})
	}
	for n := range 20 {
		s.Claims = claims()
		for i := range 20 {
			s.Claims = append(s.Claims, api.Claim{At: 3 * i, N: 2})
		}
		checks(t, "twenty claims", s, true)
		s.Claims[n].N++
		checks(t, fmt.Sprint("one that touches the next one, at ", n), s, n == 19)
		s.Claims[n].N = 0
		checks(t, fmt.Sprint("one without a byte, at ", n), s, false)
	}
}

// P10.1: each first and last byte of a claim in a report of some bytes, and of a second claim behind a first one.
func TestCheckOfEachClaim(t *testing.T) {
	s := api.Segment{Kind: 2, Source: 1, Session: 1, Serial: 1, Checks: 1, Lower: 3, Upper: 9}
	for at := -1; at <= 10; at++ {
		for n := -1; n <= 10; n++ {
			s.Claims = claims(at, n)
			checks(t, fmt.Sprint("the claim ", s.Claims), s, n > 0 && at >= 3 && at+n <= 9)
			s.Claims = claims(3, 2, at, n)
			checks(t, fmt.Sprint("the claims ", s.Claims), s, n > 0 && at > 5 && at+n <= 9)
		}
	}
}

// P10.1: the edges of Serial and Reason of the other Kinds.
func TestCheckOfSerialAndReason(t *testing.T) {
	for serial, ok := range map[uint32]bool{0: false, 1: true, math.MaxUint32: true} {
		s := ack()
		s.Serial = serial
		checks(t, fmt.Sprint("the answer to a report, Serial ", serial), s, ok)
	}
	for reason, ok := range map[int]bool{math.MinInt: false, -1: false, 0: true, 1: true, 254: true, 255: true, 256: false, 1 << 32: false, math.MaxInt: false} {
		for _, s := range []api.Segment{cancel(), stop()} {
			s.Reason = reason
			checks(t, fmt.Sprint("Kind ", s.Kind, ", Reason ", reason), s, ok)
		}
	}
}

// P10.1: a field that does not count is 0, false, none.
func TestCheckOfFieldsThatDoNotCount(t *testing.T) {
	sets := map[string]func(s *api.Segment){
		"Serial": func(s *api.Segment) { s.Serial = 1 },
		"Checks": func(s *api.Segment) { s.Checks = 1 },
		"Offset": func(s *api.Segment) { s.Offset = 1 },
		"Total":  func(s *api.Segment) { s.Total = 512 },
		"Lower":  func(s *api.Segment) { s.Lower = 1 },
		"Upper":  func(s *api.Segment) { s.Upper = 512 },
		"Reason": func(s *api.Segment) { s.Reason = 1 },
		"Check":  func(s *api.Segment) { s.Check = true },
		"Data":   func(s *api.Segment) { s.Data = []byte{0} },
		"Claims": func(s *api.Segment) { s.Claims = claims(8, 1) },
	}
	counts := map[int][]string{1: {"Offset", "Total", "Data", "Check", "Serial"}, 2: {"Serial", "Checks", "Lower", "Upper", "Claims"}, 3: {"Serial"}, 4: {"Reason"}, 6: {"Reason"}}
	asked := 0
	for _, s := range kinds() {
		for name, set := range sets {
			if slices.Contains(counts[s.Kind], name) {
				continue
			}
			c := deep(s)
			set(&c)
			checks(t, fmt.Sprint("Kind ", s.Kind, " with ", name), c, false)
			asked++
		}
		c := s
		if len(c.Data) == 0 {
			c.Data = []byte{}
		}
		if len(c.Claims) == 0 {
			c.Claims = []api.Claim{}
		}
		checks(t, fmt.Sprint("Kind ", s.Kind, " with empty lists"), c, true)
	}
	if asked != 5+5+5+9+9+10+9+10 {
		t.Errorf("%d fields were asked for", asked)
	}
}

// P10.1: all edges of all fields, held against what is told once more.
func TestCheckAtTheEdges(t *testing.T) {
	ok, not := 0, 0
	variants(func(what string, s api.Segment) {
		checks(t, what, s, may(s))
		if may(s) {
			ok++
		} else {
			not++
		}
	})
	if ok < 300 || not < 3000 {
		t.Errorf("%d that may be, %d that may not", ok, not)
	}
}

// P10.1: two segments are the same, if all their fields are; whether they may be is not asked.
func TestSame(t *testing.T) {
	var l []api.Segment
	i := 0
	variants(func(_ string, s api.Segment) {
		if !segment.Same(s, s) || !segment.Same(s, deep(s)) {
			t.Errorf("%v is not the same as itself", s)
		}
		if i++; i%9 == 0 && len(s.Claims) < 100 && len(s.Data) < 1000 {
			l = append(l, s)
		}
	})
	for _, a := range append(l, kinds()...) {
		for _, b := range l {
			if segment.Same(a, b) != alike(a, b) {
				t.Errorf("Same of %v and %v: %v", a, b, segment.Same(a, b))
			}
		}
	}
}

// P10.1: one field that is another one is enough, whichever, and by whichever bit; also one that does not count.
func TestSameOfOneFieldChanged(t *testing.T) {
	differ := func(what string, a, b api.Segment) {
		t.Helper()
		if segment.Same(a, b) || segment.Same(b, a) {
			t.Errorf("%s changed: the same", what)
		}
	}
	for _, s := range append(kinds(), api.Segment{}) {
		for bit := range 64 {
			for _, f := range intFields() {
				c := deep(s)
				*f.of(&c) ^= 1 << bit
				differ(fmt.Sprint(f.name, " by bit ", bit), s, c)
			}
			for _, f := range longFields() {
				c := deep(s)
				*f.of(&c) ^= 1 << (bit % 32)
				differ(fmt.Sprint(f.name, " by bit ", bit%32), s, c)
			}
			for i := range s.Claims {
				c := deep(s)
				c.Claims[i].At ^= 1 << bit
				differ(fmt.Sprint("At of the claim ", i), s, c)
				c = deep(s)
				c.Claims[i].N ^= 1 << bit
				differ(fmt.Sprint("N of the claim ", i), s, c)
			}
		}
		for i := range s.Data {
			c := deep(s)
			c.Data[i] ^= 0x80
			differ(fmt.Sprint("Data at ", i), s, c)
		}
		c := deep(s)
		c.Check = !c.Check
		differ("Check", s, c)
		c = deep(s)
		c.Data = append(c.Data, 0)
		differ("the length of Data", s, c)
		c = deep(s)
		c.Claims = append(c.Claims, api.Claim{})
		differ("how many claims there are", s, c)
	}
}

// P10.1: what one field has lost and another one has got is no less a change.
func TestSameOfFieldsSwapped(t *testing.T) {
	fields := intFields()
	for i, f := range fields {
		for _, g := range fields[:i] {
			a, b := api.Segment{}, api.Segment{}
			*f.of(&a), *g.of(&b) = 3, 3
			if segment.Same(a, b) {
				t.Errorf("3 as %s, and as %s: the same", f.name, g.name)
			}
		}
	}
	longs := longFields()
	for i, f := range longs {
		for _, g := range longs[:i] {
			a, b := api.Segment{}, api.Segment{}
			*f.of(&a), *g.of(&b) = 3, 3
			if segment.Same(a, b) {
				t.Errorf("3 as %s, and as %s: the same", f.name, g.name)
			}
		}
	}
	a, b := api.Segment{Claims: claims(1, 2)}, api.Segment{Claims: claims(2, 1)}
	if segment.Same(a, b) {
		t.Error("At and N exchanged: the same")
	}
	a.Claims, b.Claims = claims(1, 2, 3, 4), claims(3, 4, 1, 2)
	if segment.Same(a, b) {
		t.Error("claims exchanged: the same")
	}
}

// P10.1, R3: nil and empty lists are one; the room behind a list's end does not count.
func TestSameOfNilAndEmpty(t *testing.T) {
	for _, s := range append(kinds(), api.Segment{}) {
		a, b := s, s
		a.Data, b.Data, a.Claims, b.Claims = nil, []byte{}, nil, []api.Claim{}
		if !segment.Same(a, b) || !segment.Same(b, a) {
			t.Error("nil and empty lists are not the same")
		}
		a.Data, b.Data = []byte{5, 6, 7}[:2], []byte{5, 6}
		a.Claims, b.Claims = claims(1, 2, 3, 4)[:1], claims(1, 2)
		if !segment.Same(a, b) || !segment.Same(b, a) {
			t.Error("the room behind the end counts")
		}
	}
}

// P10.1: Forward hangs on the Kind alone.
func TestForward(t *testing.T) {
	forward := func(kind int) bool { return kind == 1 || kind == 3 || kind == 4 || kind == 7 }
	for _, s := range kinds() {
		if segment.Forward(s) != forward(s.Kind) {
			t.Errorf("Forward of Kind %d: %v", s.Kind, segment.Forward(s))
		}
	}
	for _, kind := range []int{math.MinInt, -7, -4, -3, -1, 0, 1, 2, 3, 4, 5, 6, 7, 8, 9, 255, 256, 257, 259, 260, 263, 1<<32 + 1, math.MaxInt} {
		if segment.Forward(api.Segment{Kind: kind}) != forward(kind) {
			t.Errorf("Forward of nothing but Kind %d: %v", kind, !forward(kind))
		}
	}
	variants(func(what string, s api.Segment) {
		if segment.Forward(s) != forward(s.Kind) {
			t.Errorf("%s: Forward: %v", what, segment.Forward(s))
		}
	})
}
