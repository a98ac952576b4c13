package sender_test

import (
	"fmt"
	"math"
	"math/rand/v2"
	"slices"
	"testing"

	"heliograph/api"
	"heliograph/segment"
	"heliograph/sender"
)

const (
	maxTick = 1 << 20
	maxDue  = maxTick + 65536
)

// answer is what a call answers.
type answer struct {
	s    api.Sending
	sent []api.Segment
	e    api.Errno
}

func of(s api.Sending, sent []api.Segment, e api.Errno) answer {
	return answer{s, sent, e}
}

// text tells all fields; nil and empty lists are one in it.
func text(x any) string {
	return fmt.Sprintf("%+v", x)
}

// wants asks for just that answer.
func wants(t *testing.T, what string, got, want answer) {
	t.Helper()
	if text(got) != text(want) {
		t.Errorf("%s:\n answered %+v\n want     %+v", what, got, want)
	}
}

// refuses asks for an error, and zeros beside it.
func refuses(t *testing.T, what string, got answer, e api.Errno) {
	t.Helper()
	if text(got) != text(answer{e: e}) {
		t.Errorf("%s: answered %+v, want error %d and nothing else", what, got, e)
	}
}

// fill is n bytes of which no two that are near one another are the same.
func fill(n int) []byte {
	b := make([]byte, n)
	for i := range b {
		b[i] = byte(17 + i*7 + i/256)
	}
	return b
}

// starts is what the chapter's examples begin with, with a block of n bytes.
func starts(n int) api.Start {
	return api.Start{Source: 1, Session: 5, Block: fill(n), Wait: 10, Tries: 2}
}

// begun is the session of that, at the moment 0.
func begun(t *testing.T, n int) api.Sending {
	t.Helper()
	a := of(sender.New(starts(n), 0))
	if a.e != api.OK {
		t.Fatal(a.e)
	}
	return a.s
}

// rows are those of so many pairs of At and N.
func rows(l ...int) []api.Claim {
	var out []api.Claim
	for i := 0; i+1 < len(l); i += 2 {
		out = append(out, api.Claim{At: l[i], N: l[i+1]})
	}
	return out
}

// data is a segment of a session's block; with Check, if serial is not 0.
func data(s api.Sending, at, n int, serial uint32) api.Segment {
	return api.Segment{Kind: 1, Source: s.Source, Session: s.Session, Offset: at, Total: len(s.Block), Data: slices.Clone(s.Block[at : at+n]), Check: serial > 0, Serial: serial}
}

// bare is a segment of the session that has a Kind and no more.
func bare(s api.Sending, kind int) api.Segment {
	return api.Segment{Kind: kind, Source: s.Source, Session: s.Session}
}

// report speaks of as many bytes as there may be.
func report(s api.Sending, serial, checks uint32, claims ...api.Claim) api.Segment {
	x := bare(s, 2)
	x.Serial, x.Checks, x.Upper, x.Claims = serial, checks, 512, claims
	return x
}

func ack(s api.Sending, serial uint32) api.Segment {
	x := bare(s, 3)
	x.Serial = serial
	return x
}

func cancel(s api.Sending, reason int) api.Segment {
	x := bare(s, 4)
	x.Reason = reason
	return x
}

func stop(s api.Sending, reason int) api.Segment {
	x := bare(s, 6)
	x.Reason = reason
	return x
}

// unlike is a session in which no two numbers are the same, so that fields that are mixed up are seen.
func unlike() api.Sending {
	s := api.Sending{Start: api.Start{Source: 3, Session: 70000, Block: fill(450), Wait: 77, Tries: 9}, State: 1}
	s.Got = rows(10, 20, 100, 150, 301, 40)
	s.Last = data(s, 252, 45, 333)
	s.Due, s.Asked, s.Seen, s.Reason = 5000, 4, []uint32{11, 500, 12}, 6
	return s
}

// in is the session in another State.
func in(s api.Sending, state int) api.Sending {
	s = deep(s)
	s.State = state
	return s
}

// changed is the session with something done to it; what it was handed stays.
func changed(s api.Sending, f func(s *api.Sending)) api.Sending {
	s = deep(s)
	f(&s)
	return s
}

func deep(s api.Sending) api.Sending {
	s.Block, s.Got, s.Seen = slices.Clone(s.Block), slices.Clone(s.Got), slices.Clone(s.Seen)
	s.Last = deepSegment(s.Last)
	return s
}

func deepSegment(x api.Segment) api.Segment {
	x.Data, x.Claims = slices.Clone(x.Data), slices.Clone(x.Claims)
	return x
}

// far are numbers far from all edges; some would be right, if a part of their bits were lost.
func far() []int {
	l := []int{math.MinInt, math.MinInt + 1, math.MaxInt, math.MaxInt - 1, -1 << 32, -1 << 31}
	for _, n := range []int{0, 1, 2, 5, 10, 100} {
		l = append(l, n+1<<32, n-1<<32, n+1<<40)
	}
	return l
}

// wrongMoments are no moments.
func wrongMoments() []int {
	return append(far(), -2, -1, maxTick+1, maxTick+2, maxDue)
}

// wrongStarts are starts that may not be, each for one reason.
func wrongStarts() map[string]api.Start {
	out := map[string]api.Start{}
	add := func(what string, f func(x *api.Start)) {
		x := starts(250)
		f(&x)
		out[what] = x
	}
	for _, n := range append(far(), -1, 0, 7, 8) {
		add(fmt.Sprint("Source ", n), func(x *api.Start) { x.Source = n })
	}
	add("Session 0", func(x *api.Start) { x.Session = 0 })
	for _, n := range []int{0, 513, 514, 1024, 70000} {
		add(fmt.Sprint("a Block of ", n), func(x *api.Start) { x.Block = fill(n) })
	}
	add("a Block that is nil", func(x *api.Start) { x.Block = nil })
	for _, n := range append(far(), -10, -1, 0, 4097, 4098, 65536) {
		add(fmt.Sprint("Wait ", n), func(x *api.Start) { x.Wait = n })
	}
	for _, n := range append(far(), -2, -1, 0, 17, 18, 258) {
		add(fmt.Sprint("Tries ", n), func(x *api.Start) { x.Tries = n })
	}
	return out
}

// wrongSessions are sessions that may not be, each for one reason.
func wrongSessions() map[string]api.Sending {
	out := map[string]api.Sending{"zero": {}}
	add := func(what string, f func(s *api.Sending)) {
		out[what] = changed(unlike(), f)
	}
	wrongFields(add)
	wrongGot(add)
	wrongLast(add)
	for what, x := range wrongStarts() {
		// what goes by the Start goes by the wrong one, too
		s := api.Sending{Start: x, State: 1, Due: 10}
		if len(x.Block) > 0 {
			s.Last = data(s, 0, 1, 1)
		}
		out[what] = s
	}
	return out
}

func wrongFields(add func(what string, f func(s *api.Sending))) {
	for _, n := range append(far(), -1, 0, 5, 6) {
		add(fmt.Sprint("State ", n), func(s *api.Sending) { s.State = n })
	}
	for _, n := range append(far(), -2, -1, maxDue+1, maxDue+2) {
		if n < 0 || n > maxDue {
			add(fmt.Sprint("Due ", n), func(s *api.Sending) { s.Due = n })
		}
	}
	for _, n := range append(far(), -2, -1, 10, 11, 16) {
		if n < 0 || n > 9 {
			add(fmt.Sprint("Asked ", n), func(s *api.Sending) { s.Asked = n })
		}
	}
	for _, n := range append(far(), -2, -1, 256, 257, 512) {
		if n < 0 || n > 255 {
			add(fmt.Sprint("Reason ", n), func(s *api.Sending) { s.Reason = n })
		}
	}
	for _, n := range []int{33, 34, 64, 70000} {
		add(fmt.Sprint(n, " Seen"), func(s *api.Sending) { s.Seen = serials(1, n) })
	}
	for _, i := range []int{0, 15, 31} {
		add(fmt.Sprint("32 Seen, a 0 at ", i), func(s *api.Sending) { s.Seen = serials(1, 32); s.Seen[i] = 0 })
	}
	add("Seen a 0 alone", func(s *api.Sending) { s.Seen = []uint32{0} })
}

func wrongGot(add func(what string, f func(s *api.Sending))) {
	great, least := math.MaxInt, math.MinInt
	for what, l := range map[string][]int{
		"empty": {10, 0}, "empty at 0": {0, 0}, "empty at the end": {450, 0}, "empty behind others": {10, 5, 20, 0}, "empty ahead of others": {10, 0, 20, 5},
		"less than none": {10, -1}, "ahead of the block": {-1, 2}, "far ahead": {-5, 2}, "behind the block": {450, 1}, "far behind": {451, 3},
		"one too long": {0, 451}, "passing the end": {449, 2}, "passing, the second": {10, 5, 20, 431},
		"touching": {10, 5, 15, 5}, "touching, of one byte": {10, 1, 11, 1}, "touching, the third": {1, 2, 10, 5, 15, 5}, "lapping": {10, 5, 14, 5}, "twice": {10, 5, 10, 5}, "one in the other": {10, 9, 12, 3}, "falling": {20, 5, 10, 5}, "the third falls": {20, 5, 30, 5, 10, 5},
		"great N": {10, great}, "N that makes it 0": {10, great - 9}, "N that makes it less": {10, great - 10}, "great At": {great, 1}, "both": {great, great}, "least N": {10, least}, "least At": {least, 1}, "least and great": {least, great}, "both least": {least, least}, "At beyond 32 bits": {1<<32 + 10, 1}, "N beyond 32 bits": {10, 1<<32 + 1},
		"great, the second": {10, 5, great, 1}, "great ahead": {10, great, 20, 1}, "great N, the second": {10, 5, 20, great},
	} {
		add("Got "+what, func(s *api.Sending) { s.Got = rows(l...) })
	}
}

func wrongLast(add func(what string, f func(s *api.Sending))) {
	last := func(what string, f func(x *api.Segment)) {
		add("Last "+what, func(s *api.Sending) { f(&s.Last) })
	}
	for _, n := range append(far(), -1, 0, 8) {
		last(fmt.Sprint("of Kind ", n), func(x *api.Segment) { x.Kind = n })
	}
	for kind := 2; kind <= 7; kind++ {
		last(fmt.Sprint("of Kind ", kind, " that may be"), func(x *api.Segment) {
			*x = api.Segment{Kind: kind, Source: 3, Session: 70000}
			switch kind {
			case 2:
				x.Serial, x.Checks, x.Upper = 1, 1, 450
			case 3:
				x.Serial = 1
			}
		})
	}
	last("zero", func(x *api.Segment) { *x = api.Segment{} })
	for _, n := range []int{0, 1, 2, 4, 7} {
		last(fmt.Sprint("of Source ", n), func(x *api.Segment) { x.Source = n })
	}
	for _, n := range []uint32{0, 1, 69999, 70001, 70000 - 65536} {
		last(fmt.Sprint("of Session ", n), func(x *api.Segment) { x.Session = n })
	}
	for _, n := range []int{0, 297, 449, 451, 512, 513, -450} {
		last(fmt.Sprint("of Total ", n), func(x *api.Segment) { x.Total = n })
	}
	last("without Check", func(x *api.Segment) { x.Check, x.Serial = false, 0 })
	last("without Check, with Serial", func(x *api.Segment) { x.Check = false })
	last("with Check, without Serial", func(x *api.Segment) { x.Serial = 0 })
	last("without Data", func(x *api.Segment) { x.Data = nil })
	last("of 101 bytes", func(x *api.Segment) { x.Data = fill(450)[252:353] })
	for _, i := range []int{0, 22, 44} {
		last(fmt.Sprint("with another byte at ", i), func(x *api.Segment) { x.Data[i] ^= 1 })
	}
	last("with one byte more, another one", func(x *api.Segment) { x.Data = append(x.Data, fill(450)[297]+1) })
	for _, n := range []int{251, 253, 0, -1, 405, 406, 450, math.MaxInt, math.MinInt} {
		last(fmt.Sprint("at ", n), func(x *api.Segment) { x.Offset = n })
	}
	for what, f := range map[string]func(x *api.Segment){
		"Checks": func(x *api.Segment) { x.Checks = 1 }, "Lower": func(x *api.Segment) { x.Lower = 1 }, "Upper": func(x *api.Segment) { x.Upper = 450 },
		"Reason": func(x *api.Segment) { x.Reason = 1 }, "Claims": func(x *api.Segment) { x.Claims = rows(1, 2) },
	} {
		last("with "+what, f)
	}
}

// serials are n of them, from one on.
func serials(from uint32, n int) []uint32 {
	var l []uint32
	for i := range n {
		l = append(l, from+uint32(i))
	}
	return l
}

// The layer, told once more: what is claimed is one bool a byte here.

func mayStart(x api.Start) bool {
	n := len(x.Block)
	return x.Source > 0 && x.Source < 7 && x.Session != 0 && n > 0 && n < 513 && x.Wait > 0 && x.Wait < 4097 && x.Tries > 0 && x.Tries < 17
}

func mayMoment(now int) bool {
	return now >= 0 && now <= maxTick
}

func may(s api.Sending) bool {
	if !mayStart(s.Start) || s.State < 1 || s.State > 4 || s.Due < 0 || s.Due > maxDue || s.Asked < 0 || s.Asked > s.Tries || s.Reason < 0 || s.Reason > 255 {
		return false
	}
	free := -1 // the least byte at which a row may begin
	for _, c := range s.Got {
		if c.At <= free || c.At > 512 || c.N < 1 || c.N > 512 || c.At+c.N > len(s.Block) {
			return false
		}
		free = c.At + c.N
	}
	x := s.Last
	if segment.Check(x) != api.OK || x.Kind != 1 || !x.Check || x.Source != s.Source || x.Session != s.Session || x.Total != len(s.Block) {
		return false
	}
	return string(x.Data) == string(s.Block[x.Offset:x.Offset+len(x.Data)]) && len(s.Seen) <= 32 && !slices.Contains(s.Seen, 0)
}

// claimed tells of each byte of the block whether a row has it.
func claimed(s api.Sending) []bool {
	l := make([]bool, len(s.Block))
	for i := range l {
		for _, c := range s.Got {
			l[i] = l[i] || c.At <= i && i < c.At+c.N
		}
	}
	return l
}

// runs are the rows of bytes of which it is told so.
func runs(l []bool, so bool) []api.Claim {
	var out []api.Claim
	for i, x := range l {
		switch {
		case x != so:
		case i > 0 && l[i-1] == so:
			out[len(out)-1].N++
		default:
			out = append(out, api.Claim{At: i, N: 1})
		}
	}
	return out
}

// toldRows sends rows, byte by byte.
func toldRows(a *answer, l []api.Claim, serial uint32, now int) {
	for _, r := range l {
		for i := range r.N {
			if i%100 == 0 {
				a.sent = append(a.sent, data(a.s, r.At+i, 1, 0))
				continue
			}
			x := &a.sent[len(a.sent)-1]
			x.Data = append(x.Data, a.s.Block[r.At+i])
		}
	}
	x := &a.sent[len(a.sent)-1]
	x.Check, x.Serial = true, serial
	a.s.Last, a.s.Due, a.s.Asked = deepSegment(*x), now+a.s.Wait, 0
}

func toldNew(x api.Start, now int) answer {
	if !mayStart(x) || !mayMoment(now) {
		return answer{e: api.ErrArg}
	}
	a := answer{s: deep(api.Sending{Start: x, State: 1})}
	toldRows(&a, rows(0, len(x.Block)), 1, now)
	return a
}

// toldWrong is the error that a session and a moment have.
func toldWrong(s api.Sending, now int) api.Errno {
	switch {
	case !may(s):
		return api.ErrSending
	case !mayMoment(now):
		return api.ErrArg
	}
	return api.OK
}

func toldTake(s api.Sending, x api.Segment, now int) answer {
	if e := toldWrong(s, now); e != api.OK {
		return answer{e: e}
	}
	if segment.Check(x) != api.OK || x.Source != s.Source || x.Session != s.Session || x.Kind != 2 && x.Kind != 5 && x.Kind != 6 {
		return answer{e: api.ErrArg}
	}
	a := answer{s: deep(s)}
	if x.Kind == 5 && s.State == 3 {
		a.s.State = 4
	}
	if x.Kind == 6 {
		a.sent = append(a.sent, bare(s, 7))
		if s.State == 1 || s.State == 3 {
			a.s.State, a.s.Reason = 4, 2
		}
	}
	if x.Kind == 2 {
		a.sent = append(a.sent, ack(s, x.Serial))
		if s.State == 1 && !slices.Contains(s.Seen, x.Serial) {
			toldReport(&a, x, now)
		}
	}
	return a
}

// toldReport is what a report that is new makes of an open session.
func toldReport(a *answer, x api.Segment, now int) {
	a.s.Seen = append(a.s.Seen, x.Serial)
	if len(a.s.Seen) == 33 {
		a.s.Seen = a.s.Seen[1:]
	}
	a.s.Got = x.Claims
	a.s.Got = runs(claimed(a.s), true)
	l := runs(claimed(a.s), false)
	if len(l) == 0 {
		a.s.State = 2
	} else if x.Checks == a.s.Last.Serial {
		serial := uint32(1)
		if x.Checks < 1<<32-1 {
			serial = x.Checks + 1
		}
		toldRows(a, l, serial, now)
	}
}

func toldGiveUp(a *answer, reason, now int) {
	a.s.State, a.s.Reason, a.s.Due, a.s.Asked = 3, reason, now+a.s.Wait, 0
	a.sent = append(a.sent, cancel(a.s, reason))
}

func toldTick(s api.Sending, now int) answer {
	if e := toldWrong(s, now); e != api.OK {
		return answer{e: e}
	}
	a := answer{s: deep(s)}
	if s.State%2 == 0 || now < s.Due {
		return a
	}
	if s.Asked < s.Tries {
		a.s.Asked, a.s.Due = s.Asked+1, now+s.Wait
		a.sent = append(a.sent, map[int]api.Segment{1: s.Last, 3: cancel(s, s.Reason)}[s.State])
	} else if s.State == 1 {
		toldGiveUp(&a, 1, now)
	} else {
		a.s.State = 4
	}
	return a
}

func toldCancel(s api.Sending, now int) answer {
	if e := toldWrong(s, now); e != api.OK {
		return answer{e: e}
	}
	a := answer{s: deep(s)}
	if s.State == 1 {
		toldGiveUp(&a, 0, now)
	}
	return a
}

// Sessions and segments by chance, the same at each run.

type dice struct {
	*rand.Rand
}

func chance(seed uint64) dice {
	return dice{rand.New(rand.NewPCG(seed, 14))}
}

// serial is a small one mostly, so that it is met again.
func (d dice) serial() uint32 {
	if d.IntN(8) == 0 {
		return math.MaxUint32 - uint32(d.IntN(2))
	}
	return 1 + uint32(d.IntN(12))
}

// rows lie below an end, at most so many.
func (d dice) rows(end, most int) []api.Claim {
	var l []api.Claim
	wide := 1 + d.IntN(200)
	for at := d.IntN(2) * d.IntN(40); at < end && len(l) < most; {
		n := 1 + d.IntN(min(end-at, wide))
		l = append(l, api.Claim{At: at, N: n})
		at += n + 1 + d.IntN(1+d.IntN(120))
	}
	return l
}

func (d dice) start() api.Start {
	return api.Start{Source: 1 + d.IntN(6), Session: d.serial(), Block: fill(1 + d.IntN(512)), Wait: 1 + d.IntN(30), Tries: 1 + d.IntN(16)}
}

// sending is a session that may be.
func (d dice) sending() api.Sending {
	s := api.Sending{Start: d.start(), State: 1 + d.IntN(4)}
	if d.IntN(3) > 0 {
		s.State = 1
	}
	s.Got = d.rows(len(s.Block), 300)
	n := 1 + d.IntN(min(100, len(s.Block)))
	s.Last = data(s, d.IntN(len(s.Block)-n+1), n, d.serial())
	s.Due, s.Asked, s.Reason = d.IntN(40), d.IntN(s.Tries+1), d.IntN(256)
	for range d.IntN(2) * d.IntN(33) {
		s.Seen = append(s.Seen, d.serial()+uint32(d.IntN(9)))
	}
	if slices.Contains(s.Seen, 0) {
		s.Seen = nil
	}
	return s
}

// back is a segment that goes back to the session.
func (d dice) back(s api.Sending) api.Segment {
	switch d.IntN(8) {
	case 0:
		return bare(s, 5)
	case 1:
		return stop(s, d.IntN(256))
	}
	x := report(s, d.serial(), d.serial())
	if d.IntN(3) > 0 {
		x.Checks = s.Last.Serial
	}
	x.Claims = d.rows(512, 20)
	if d.IntN(6) == 0 {
		x.Claims = rows(0, len(s.Block)+d.IntN(513-len(s.Block)))
	}
	return x
}
