package receiver_test

import (
	"fmt"
	"math"
	"math/rand/v2"
	"slices"
	"testing"

	"heliograph/api"
	"heliograph/receiver"
	"heliograph/segment"
)

const (
	maxTick = 1 << 20
	maxDue  = maxTick + 65536
)

// answer is what a call answers.
type answer struct {
	s    api.Taking
	sent []api.Segment
	e    api.Errno
}

func of(s api.Taking, sent []api.Segment, e api.Errno) answer {
	return answer{s, sent, e}
}

// text tells all fields; nil and empty lists are one in it.
func text(x any) string {
	return fmt.Sprintf("%+v", x)
}

// wants asks for just that answer.
func wants(t *testing.T, what string, got, want answer) {
	t.Helper()
	if text(got) != text(want) {
		t.Errorf("%s:\n answered %+v\n want     %+v", what, got, want)
	}
}

// refuses asks for an error, and zeros beside it.
func refuses(t *testing.T, what string, got answer, e api.Errno) {
	t.Helper()
	if text(got) != text(answer{e: e}) {
		t.Errorf("%s: answered %+v, want error %d and nothing else", what, got, e)
	}
}

// fill is n bytes, none of them 0, of which no two that are near one another are the same.
func fill(n int) []byte {
	b := make([]byte, n)
	for i := range b {
		b[i] = byte(1 + (16+i*7+i/255)%255)
	}
	return b
}

// rows are those of so many pairs of At and N.
func rows(l ...int) []api.Claim {
	var out []api.Claim
	for i := 0; i+1 < len(l); i += 2 {
		out = append(out, api.Claim{At: l[i], N: l[i+1]})
	}
	return out
}

// spread are n rows of so many bytes, a gap of two bytes ahead of each.
func spread(n, bytes int) []api.Claim {
	var l []api.Claim
	for i := range n {
		l = append(l, api.Claim{At: 2 + i*(bytes+2), N: bytes})
	}
	return l
}

// data is a segment of the block that fill makes; with Check, if serial is not 0.
func data(s api.Taking, at, n int, serial uint32) api.Segment {
	return api.Segment{Kind: 1, Source: s.Source, Session: s.Session, Offset: at, Total: s.Total, Data: fill(s.Total)[at : at+n : at+n], Check: serial > 0, Serial: serial}
}

// bare is a segment of the session that has a Kind and no more.
func bare(s api.Taking, kind int) api.Segment {
	return api.Segment{Kind: kind, Source: s.Source, Session: s.Session}
}

func report(s api.Taking, serial, checks uint32, claims ...api.Claim) api.Segment {
	x := bare(s, 2)
	x.Serial, x.Checks, x.Upper, x.Claims = serial, checks, s.Total, claims
	return x
}

func ack(s api.Taking, serial uint32) api.Segment {
	x := bare(s, 3)
	x.Serial = serial
	return x
}

func cancel(s api.Taking, reason int) api.Segment {
	x := bare(s, 4)
	x.Reason = reason
	return x
}

func stop(s api.Taking, reason int) api.Segment {
	x := bare(s, 6)
	x.Reason = reason
	return x
}

// example is what the session of the chapter's examples has in common with its segments.
func example() api.Taking {
	return api.Taking{Source: 1, Session: 5, Total: 250, Life: 100}
}

// with is the session with those rows come in, and no others.
func with(s api.Taking, l ...api.Claim) api.Taking {
	s.Bytes, s.Got = make([]byte, s.Total), slices.Clone(l)
	for _, c := range l {
		copy(s.Bytes[c.At:c.At+c.N], fill(s.Total)[c.At:])
	}
	return s
}

// unlike is an open session in which no two numbers are the same, so that fields that are mixed up are seen.
func unlike() api.Taking {
	return with(api.Taking{Source: 3, Session: 70000, Total: 450, Serial: 333, State: 1, Life: 77, Due: 5000}, rows(10, 20, 100, 150, 301, 40)...)
}

// in is the session in another State: a done one has all bytes.
func in(s api.Taking, state int) api.Taking {
	s = deep(s)
	if state == 2 {
		s = with(s, rows(0, s.Total)...)
	}
	s.State = state
	return s
}

// states are unlike, in each State; one that is over with some bytes, with all and with none.
func states() []api.Taking {
	s := unlike()
	return []api.Taking{s, in(s, 2), in(s, 4), in(in(s, 2), 4), in(with(s), 4)}
}

// changed is the session with something done to it; what it was handed stays.
func changed(s api.Taking, f func(s *api.Taking)) api.Taking {
	s = deep(s)
	f(&s)
	return s
}

func deep(s api.Taking) api.Taking {
	s.Bytes, s.Got = slices.Clone(s.Bytes), slices.Clone(s.Got)
	return s
}

func deepSegment(x api.Segment) api.Segment {
	x.Data, x.Claims = slices.Clone(x.Data), slices.Clone(x.Claims)
	return x
}

// forwards are segments that go forward, one of each Kind and more.
func forwards(s api.Taking) []api.Segment {
	n := s.Total
	return []api.Segment{data(s, 0, 1, 0), data(s, n-1, 1, 9), data(s, 0, min(n, 100), 7), ack(s, 1), ack(s, 333), cancel(s, 0), cancel(s, 255), bare(s, 7)}
}

// backs are segments that go back, one of each Kind and more.
func backs(s api.Taking) []api.Segment {
	return []api.Segment{report(s, 1, 1), report(s, 334, 9, rows(0, s.Total)...), bare(s, 5), stop(s, 0), stop(s, 3)}
}

// far are numbers far from all edges; some would be right, if a part of their bits were lost.
func far() []int {
	l := []int{math.MinInt, math.MinInt + 1, math.MaxInt, math.MaxInt - 1, -1 << 32, -1 << 31}
	for _, n := range []int{0, 1, 2, 5, 10, 100} {
		l = append(l, n+1<<32, n-1<<32, n+1<<40)
	}
	return l
}

// wrongMoments are no moments.
func wrongMoments() []int {
	return append(far(), -2, -1, maxTick+1, maxTick+2, maxDue)
}

// wrongLives are those that a session may not have.
func wrongLives() []int {
	return append(far(), -65536, -2, -1, 0, 65537, 65538, maxTick)
}

// wrongSessions are sessions that may not be, each for one reason.
func wrongSessions() map[string]api.Taking {
	out := map[string]api.Taking{"zero": {}}
	for i, s := range states() {
		add := func(what string, f func(s *api.Taking)) {
			out[fmt.Sprint(what, " of ", i)] = changed(s, f)
		}
		wrongNumbers(add)
		wrongBytes(add)
		wrongGot(add)
	}
	wrongStates(func(what string, s api.Taking) { out[what] = s })
	return out
}

func wrongNumbers(add func(what string, f func(s *api.Taking))) {
	for _, n := range append(far(), -1, 0, 7, 8) {
		add(fmt.Sprint("Source ", n), func(s *api.Taking) { s.Source = n })
	}
	add("Session 0", func(s *api.Taking) { s.Session = 0 })
	for _, n := range wrongLives() {
		add(fmt.Sprint("Life ", n), func(s *api.Taking) { s.Life = n })
	}
	for _, n := range append(far(), -2, -1, maxDue+1, maxDue+2) {
		if n < 0 || n > maxDue {
			add(fmt.Sprint("Due ", n), func(s *api.Taking) { s.Due = n })
		}
	}
	for _, n := range append(far(), -1, 0, 3, 5, 6, 8) {
		add(fmt.Sprint("State ", n), func(s *api.Taking) { s.State = n })
	}
}

func wrongBytes(add func(what string, f func(s *api.Taking))) {
	for _, n := range []int{0, 513, 514, 1024} {
		add(fmt.Sprint("Total ", n), func(s *api.Taking) { s.Total, s.Bytes, s.Got, s.State = n, make([]byte, n), nil, 4 })
		add(fmt.Sprint("Total ", n, ", open"), func(s *api.Taking) { s.Total, s.Bytes, s.Got, s.State = n, make([]byte, n), nil, 1 })
		add(fmt.Sprint("Total ", n, ", done"), func(s *api.Taking) { s.Total, s.Bytes, s.Got, s.State = n, make([]byte, n), rows(0, n), 2 })
	}
	for _, n := range append(far(), -450, -1, 0, 449, 451, 512) {
		add(fmt.Sprint("Total ", n, " beside 450 bytes"), func(s *api.Taking) { s.Total, s.Got, s.State = n, nil, 4 })
	}
	for _, n := range []int{0, 1, 449, 451, 512, 900} {
		add(fmt.Sprint(n, " bytes of 450"), func(s *api.Taking) { s.Bytes = make([]byte, n) })
	}
	add("no bytes", func(s *api.Taking) { s.Bytes = nil })
}

func wrongGot(add func(what string, f func(s *api.Taking))) {
	great, least := math.MaxInt, math.MinInt
	for what, l := range map[string][]int{
		"empty": {10, 0}, "empty at 0": {0, 0}, "empty at the end": {450, 0}, "empty behind others": {10, 5, 20, 0}, "empty ahead of others": {10, 0, 20, 5}, "empty behind all": {0, 450, 451, 0},
		"less than none": {10, -1}, "ahead of the block": {-1, 2}, "far ahead": {-5, 2}, "behind the block": {450, 1}, "far behind": {451, 3},
		"one too long": {0, 451}, "passing the end": {449, 2}, "passing, the second": {10, 5, 20, 431},
		"touching": {10, 5, 15, 5}, "touching, of one byte": {10, 1, 11, 1}, "touching, the third": {1, 2, 10, 5, 15, 5}, "touching, all": {0, 225, 225, 225}, "lapping": {10, 5, 14, 5}, "twice": {10, 5, 10, 5}, "all twice": {0, 450, 0, 450}, "one in the other": {10, 9, 12, 3}, "falling": {20, 5, 10, 5}, "the third falls": {20, 5, 30, 5, 10, 5},
		"great N": {10, great}, "N that makes it 0": {10, great - 9}, "N that makes it less": {10, great - 10}, "great At": {great, 1}, "both": {great, great}, "least N": {10, least}, "least At": {least, 1}, "least and great": {least, great}, "both least": {least, least}, "At beyond 32 bits": {1<<32 + 10, 1}, "N beyond 32 bits": {10, 1<<32 + 1},
		"great, the second": {10, 5, great, 1}, "great ahead": {10, great, 20, 1}, "great N, the second": {10, 5, 20, great},
	} {
		for _, state := range []int{1, 2, 4} {
			add(fmt.Sprint("Got ", what, ", State ", state), func(s *api.Taking) { s.Got, s.State = rows(l...), state })
		}
	}
}

// wrongStates are those in which the State does not go with what has come in.
func wrongStates(add func(what string, s api.Taking)) {
	for _, n := range []int{1, 2, 450, 512} {
		s := unlike()
		s.Total, s.State = n, 1
		add(fmt.Sprint("open with all of ", n), with(s, rows(0, n)...))
		s.State = 3
		add(fmt.Sprint("SessionCancel with all of ", n), with(s, rows(0, n)...))
		add(fmt.Sprint("SessionCancel with none of ", n), with(s))
		s.State = 2
		add(fmt.Sprint("done with none of ", n), with(s))
		if n > 1 {
			add(fmt.Sprint("done without the first of ", n), with(s, rows(1, n-1)...))
			add(fmt.Sprint("done without the last of ", n), with(s, rows(0, n-1)...))
		}
		if n > 2 {
			add(fmt.Sprint("done without the second of ", n), with(s, rows(0, 1, 2, n-2)...))
		}
	}
	add("done with some", changed(unlike(), func(s *api.Taking) { s.State = 2 }))
}

// The layer, told once more: what has come in is one bool a byte here.

func mayMoment(now int) bool {
	return now >= 0 && now <= maxTick
}

func may(s api.Taking) bool {
	if s.Source < 1 || s.Source > 6 || s.Session == 0 || s.Total < 1 || s.Total > 512 || len(s.Bytes) != s.Total || s.Life < 1 || s.Life > 65536 || s.Due < 0 || s.Due > maxDue {
		return false
	}
	free := -1 // the least byte at which a row may begin
	for _, c := range s.Got {
		if c.At <= free || c.At > 512 || c.N < 1 || c.N > 512 || c.At+c.N > s.Total {
			return false
		}
		free = c.At + c.N
	}
	all := !slices.Contains(come(s), false)
	return s.State == 4 || s.State == 1 && !all || s.State == 2 && all
}

// come tells of each byte of the block whether a row has it.
func come(s api.Taking) []bool {
	l := make([]bool, s.Total)
	for i := range l {
		for _, c := range s.Got {
			l[i] = l[i] || c.At <= i && i < c.At+c.N
		}
	}
	return l
}

// runs are the rows of bytes of which it is told so.
func runs(l []bool, so bool) []api.Claim {
	var out []api.Claim
	for i, x := range l {
		switch {
		case x != so:
		case i > 0 && l[i-1] == so:
			out[len(out)-1].N++
		default:
			out = append(out, api.Claim{At: i, N: 1})
		}
	}
	return out
}

func toldNew(x api.Segment, now, life int) answer {
	if segment.Check(x) != api.OK || x.Kind != 1 || life < 1 || life > 65536 {
		return answer{e: api.ErrArg}
	}
	s := api.Taking{Source: x.Source, Session: x.Session, Total: x.Total, Bytes: make([]byte, x.Total), State: 1, Life: life}
	return toldTake(s, x, now)
}

// toldWrong is the error that a session and a moment have.
func toldWrong(s api.Taking, now int) api.Errno {
	switch {
	case !may(s):
		return api.ErrTaking
	case !mayMoment(now):
		return api.ErrArg
	}
	return api.OK
}

func toldTake(s api.Taking, x api.Segment, now int) answer {
	if e := toldWrong(s, now); e != api.OK {
		return answer{e: e}
	}
	if segment.Check(x) != api.OK || x.Source != s.Source || x.Session != s.Session || x.Kind == 2 || x.Kind == 5 || x.Kind == 6 {
		return answer{e: api.ErrArg}
	}
	a := answer{s: deep(s)}
	a.s.Due = now + s.Life
	if x.Kind == 4 {
		a.sent = append(a.sent, bare(s, 5))
		if s.State == 1 {
			a.s.State = 4
		}
	}
	if x.Kind == 1 && s.State != 4 {
		toldData(&a, x)
	}
	return a
}

// toldData is what a data segment makes of a session that is not over, byte by byte.
func toldData(a *answer, x api.Segment) {
	has := come(a.s)
	wrong := x.Total != a.s.Total
	for i, b := range x.Data {
		at := x.Offset + i
		if wrong || has[at] && a.s.Bytes[at] != b {
			a.s.State, a.s.Got, a.s.Bytes = 4, nil, make([]byte, a.s.Total)
			a.sent = append(a.sent, stop(a.s, 3))
			return
		}
	}
	for i, b := range x.Data {
		a.s.Bytes[x.Offset+i], has[x.Offset+i] = b, true
	}
	a.s.Got = runs(has, true)
	if !slices.Contains(has, false) {
		a.s.State = 2
	}
	if x.Check {
		a.s.Serial++
		if a.s.Serial == 0 {
			a.s.Serial = 1
		}
		a.sent = append(a.sent, report(a.s, a.s.Serial, x.Serial, slices.Clone(a.s.Got[:min(20, len(a.s.Got))])...))
	}
}

func toldTick(s api.Taking, now int) answer {
	if e := toldWrong(s, now); e != api.OK {
		return answer{e: e}
	}
	a := answer{s: deep(s)}
	if s.State != 4 && now >= s.Due {
		a.s.State = 4
		if s.State == 1 {
			a.sent = []api.Segment{stop(s, 4)}
		}
	}
	return a
}

func toldMissing(s api.Taking) int {
	n := 0
	if may(s) {
		for _, got := range come(s) {
			if !got {
				n++
			}
		}
	}
	return n
}

// Sessions and segments by chance, the same at each run.

type dice struct {
	*rand.Rand
}

func chance(seed uint64) dice {
	return dice{rand.New(rand.NewPCG(seed, 15))}
}

// serial is a small one mostly, sometimes one of the greatest.
func (d dice) serial() uint32 {
	if d.IntN(8) == 0 {
		return math.MaxUint32 - uint32(d.IntN(3))
	}
	return 1 + uint32(d.IntN(12))
}

// rows lie below an end.
func (d dice) rows(end int) []api.Claim {
	var l []api.Claim
	wide, apart := 1+d.IntN(1+d.IntN(200)), 1+d.IntN(1+d.IntN(120))
	for at := d.IntN(2) * d.IntN(40); at < end; {
		n := 1 + d.IntN(min(end-at, wide))
		l = append(l, api.Claim{At: at, N: n})
		at += n + 1 + d.IntN(apart)
	}
	return l
}

// taking is a session that may be, with bytes of the block that fill makes.
func (d dice) taking() api.Taking {
	s := api.Taking{Source: 1 + d.IntN(6), Session: d.serial(), Total: 1 + d.IntN(512), Serial: d.serial() - 1, State: 1, Life: 1 + d.IntN(65536), Due: d.IntN(40)}
	if d.IntN(3) == 0 {
		s.Total = 1 + d.IntN(8)
	}
	s = with(s, d.rows(s.Total)...)
	if d.IntN(8) == 0 {
		s = with(s, rows(0, s.Total)...)
	}
	switch {
	case d.IntN(6) == 0:
		s.State = 4
	case !slices.Contains(come(s), false):
		s.State = 2
	}
	return s
}

// data is a segment of the block that fill makes, now and then with another byte or another Total.
func (d dice) data(s api.Taking) api.Segment {
	n := 1 + d.IntN(min(100, s.Total))
	x := data(s, d.IntN(s.Total-n+1), n, uint32(d.IntN(2))*d.serial())
	switch d.IntN(12) {
	case 0:
		x.Data[d.IntN(n)] ^= 1 << d.IntN(8)
	case 1:
		x.Total = max(x.Offset+n, x.Total+1-2*d.IntN(2))
		x.Total = min(x.Total, 512)
	}
	return x
}

// there is a segment that goes forward to the session.
func (d dice) there(s api.Taking) api.Segment {
	switch d.IntN(14) {
	case 0:
		return cancel(s, d.IntN(256))
	case 1:
		return ack(s, d.serial())
	case 2:
		return bare(s, 7)
	}
	return d.data(s)
}

// right asks whether an answer may be: the session, and each segment, which is one of the session's and goes back.
func right(t *testing.T, a answer) {
	t.Helper()
	if a.e != api.OK || receiver.Check(a.s) != api.OK || !may(a.s) {
		t.Fatalf("the session may not be: %+v, error %d", a.s, a.e)
	}
	for _, x := range a.sent {
		if segment.Check(x) != api.OK || segment.Forward(x) || x.Source != a.s.Source || x.Session != a.s.Session {
			t.Fatalf("it sends %+v", x)
		}
	}
}
