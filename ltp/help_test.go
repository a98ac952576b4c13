package ltp_test

import (
	"fmt"
	"math"
	"math/rand/v2"
	"reflect"
	"slices"
	"testing"

	"heliograph/api"
	"heliograph/ltp"
	"heliograph/receiver"
	"heliograph/segment"
	"heliograph/sender"
)

const (
	maxTick = 1 << 20
	maxDue  = maxTick + 65536
)

// answer is what a call answers.
type answer struct {
	l     api.Ltp
	said  []api.Say
	heard []api.Heard
	e     api.Errno
}

func of(l api.Ltp, said []api.Say, heard []api.Heard, e api.Errno) answer {
	return answer{l, said, heard, e}
}

func ofStart(l api.Ltp, said []api.Say, e api.Errno) answer {
	return answer{l: l, said: said, e: e}
}

func ofNew(l api.Ltp, e api.Errno) answer {
	return answer{l: l, e: e}
}

// text tells all fields; nil and empty lists are one in it.
func text(x any) string {
	return fmt.Sprintf("%+v", x)
}

// wants asks for just that answer; text is slow, and only asked where lists may be nil in one and empty in the other.
func wants(t *testing.T, what string, got, want answer) {
	t.Helper()
	if !reflect.DeepEqual(got, want) && text(got) != text(want) {
		t.Errorf("%s:\n answered %+v\n want     %+v", what, got, want)
	}
}

// refuses asks for an error, and zeros beside it.
func refuses(t *testing.T, what string, got answer, e api.Errno) {
	t.Helper()
	if text(got) != text(answer{e: e}) {
		t.Errorf("%s: answered %+v, want error %d and nothing else", what, got, e)
	}
}

// who is whose session it is, and its number.
type who struct {
	source  int
	session uint32
}

// fill is the block of n bytes of a session: none of them is 0, no two that are near one another are the same, and each session has others.
func fill(session uint32, n int) []byte {
	b := make([]byte, n)
	for i := range b {
		b[i] = byte(1 + (16+i*7+i/255+int(session)*31)%255)
	}
	return b
}

// rows are those of so many pairs of At and N.
func rows(l ...int) []api.Claim {
	var out []api.Claim
	for i := 0; i+1 < len(l); i += 2 {
		out = append(out, api.Claim{At: l[i], N: l[i+1]})
	}
	return out
}

// data is a segment of the block that fill makes; with Check, if serial is not 0.
func data(w who, total, at, n int, serial uint32) api.Segment {
	return api.Segment{Kind: 1, Source: w.source, Session: w.session, Offset: at, Total: total, Data: fill(w.session, total)[at : at+n : at+n], Check: serial > 0, Serial: serial}
}

// bare is a segment of the session that has a Kind and no more.
func bare(w who, kind int) api.Segment {
	return api.Segment{Kind: kind, Source: w.source, Session: w.session}
}

func report(w who, serial, checks uint32, upper int, claims ...api.Claim) api.Segment {
	x := bare(w, 2)
	x.Serial, x.Checks, x.Upper, x.Claims = serial, checks, upper, claims
	return x
}

func ack(w who, serial uint32) api.Segment {
	x := bare(w, 3)
	x.Serial = serial
	return x
}

func cancel(w who, reason int) api.Segment {
	x := bare(w, 4)
	x.Reason = reason
	return x
}

func stop(w who, reason int) api.Segment {
	x := bare(w, 6)
	x.Reason = reason
	return x
}

// ours are the rules of the sessions below, of which no two numbers are the same.
func ours() api.Rules {
	return api.Rules{Wait: 7, Tries: 5, Life: 77}
}

// outward is a session of the node 2 that has just begun to send a block of n bytes.
func outward(to int, session uint32, n int) api.Outward {
	s := api.Sending{Start: api.Start{Source: 2, Session: session, Block: fill(session, n), Wait: 7, Tries: 5}, State: 1, Due: 7}
	last := min(n, 100)
	s.Last = data(who{2, session}, n, n-last, last, 1)
	return api.Outward{To: to, Sending: s}
}

// taking is an open session that takes in, with those rows come in.
func taking(w who, total int, got ...api.Claim) api.Taking {
	s := api.Taking{Source: w.source, Session: w.session, Total: total, Bytes: make([]byte, total), Got: got, State: 1, Life: 77, Due: 5000}
	for _, c := range got {
		copy(s.Bytes[c.At:c.At+c.N], fill(w.session, total)[c.At:])
	}
	return s
}

// unlike are sessions of the node 2, in which no two numbers of one are the same, so that fields that are mixed up are seen.
func unlike() api.Ltp {
	l := api.Ltp{Node: 2, Rules: ours(), Next: 200010}
	l.Out = []api.Outward{outward(1, 200001, 450), outward(4, 200007, 120), outward(1, 200004, 60)}
	s := &l.Out[0].Sending
	s.Got, s.Last = rows(10, 20, 100, 150, 301, 40), data(who{2, 200001}, 450, 252, 45, 333)
	s.Due, s.Asked, s.Seen, s.Reason = 5001, 4, []uint32{11, 500, 12}, 6
	s = &l.Out[1].Sending
	s.State, s.Due, s.Asked, s.Reason = 3, 5002, 3, 1
	s = &l.Out[2].Sending
	s.Due, s.Asked = 5003, 5
	l.In = []api.Taking{taking(who{1, 70000}, 450, rows(10, 20, 100, 150, 301, 40)...), taking(who{3, 70000}, 90), taking(who{1, 70005}, 250, rows(0, 249)...)}
	l.In[0].Serial, l.In[0].Due = 333, 5004
	l.In[1].Serial, l.In[1].Due = 44, 5005
	l.In[2].Serial, l.In[2].Due = 0, 5006
	l.Closed = []api.Closed{{Source: 1, Session: 60001, Total: 33, Done: true, Serial: 5}, {Source: 6, Session: 70000, Total: 512, Serial: 8}, {Source: 1, Session: 60002, Total: 100, Done: true, Serial: math.MaxUint32}, {Source: 3, Session: 60001, Total: 1}}
	return l
}

// withOut, withIn and withClosed are the sessions with so many in that list.
func withOut(l api.Ltp, n int) api.Ltp {
	l = deep(l)
	for len(l.Out) < n {
		l.Out = append(l.Out, outward([]int{1, 3, 4, 5, 6}[len(l.Out)%5], 200100+uint32(len(l.Out)), 20+30*(len(l.Out)%16)))
	}
	l.Out = l.Out[:n]
	return l
}

func withIn(l api.Ltp, n int) api.Ltp {
	l = deep(l)
	for len(l.In) < n {
		w := who{[]int{1, 3, 4, 5, 6}[len(l.In)%5], 71000 + uint32(len(l.In)/2)}
		l.In = append(l.In, taking(w, 20+30*(len(l.In)%16), rows(1, 1+len(l.In)%15)...))
	}
	l.In = l.In[:n]
	return l
}

func withClosed(l api.Ltp, n int) api.Ltp {
	l = deep(l)
	for i := len(l.Closed); i < n; i++ {
		l.Closed = append(l.Closed, api.Closed{Source: []int{1, 3, 4, 5, 6}[i%5], Session: 61000 + uint32(i/2), Total: 1 + 20*(i%25), Done: i%3 > 0, Serial: uint32(i)})
	}
	l.Closed = l.Closed[:n]
	return l
}

// full has as many of each as there may be.
func full() api.Ltp {
	return withClosed(withIn(withOut(unlike(), 8), 8), 16)
}

// bareLtp has no sessions.
func bareLtp() api.Ltp {
	return api.Ltp{Node: 2, Rules: ours(), Next: 65536}
}

// changed are the sessions with something done to them; what it was handed stays.
func changed(l api.Ltp, f func(l *api.Ltp)) api.Ltp {
	l = deep(l)
	f(&l)
	return l
}

func deep(l api.Ltp) api.Ltp {
	l.Out, l.In, l.Closed = slices.Clone(l.Out), slices.Clone(l.In), slices.Clone(l.Closed)
	for i := range l.Out {
		s := &l.Out[i].Sending
		s.Block, s.Got, s.Seen, s.Last = slices.Clone(s.Block), slices.Clone(s.Got), slices.Clone(s.Seen), deepSegment(s.Last)
	}
	for i := range l.In {
		s := &l.In[i]
		s.Bytes, s.Got = slices.Clone(s.Bytes), slices.Clone(s.Got)
	}
	return l
}

func deepSegment(x api.Segment) api.Segment {
	x.Data, x.Claims = slices.Clone(x.Data), slices.Clone(x.Claims)
	return x
}

// fine are sessions that may be, of all kinds.
func fine() []api.Ltp {
	return []api.Ltp{unlike(), full(), bareLtp(), withOut(unlike(), 7), withIn(full(), 7), withClosed(full(), 15), withOut(full(), 0), withClosed(withIn(unlike(), 8), 0)}
}

// segments are of each Kind that there is, of a session of which the block has total bytes.
func segments(w who, total int) []api.Segment {
	n := min(total, 100)
	another := data(w, total, total-n, n, 12)
	another.Data[n-1]++
	less := data(w, max(1, total-1), 0, 1, 14)
	return []api.Segment{
		data(w, total, 0, n, 0), data(w, total, 0, n, 9), data(w, total, total-n, n, 0), data(w, total, total-1, 1, 10), data(w, total, total/2, 1, math.MaxUint32), another, less, data(w, min(512, total+1), 0, 1, 0), data(w, min(512, total+1), 0, n, 13),
		report(w, 700, 1, total), report(w, 701, 1, total, rows(0, total)...), report(w, 11, 333, 512), report(w, 702, 333, total, rows(0, 1)...), report(w, math.MaxUint32, 2, 512, rows(0, 512)...),
		ack(w, 1), ack(w, math.MaxUint32), cancel(w, 0), cancel(w, 255), bare(w, 5), stop(w, 0), stop(w, 3), stop(w, 255), bare(w, 7),
	}
}

// wrongSegments are those that may not be; some are of a session that is there.
func wrongSegments(w who) []api.Segment {
	l := []api.Segment{{}, bare(w, 0), bare(w, 8), bare(w, -1), bare(w, 1), bare(w, 2), bare(w, 3), cancel(w, 256), stop(w, -1), bare(who{w.source, 0}, 5), bare(who{w.source, 0}, 7)}
	for _, x := range segments(w, 250) {
		x.Lower = 512
		if x.Kind == 2 {
			x.Serial = 0
		}
		l = append(l, x)
	}
	return l
}

// far are numbers far from all edges; some would be right, if a part of their bits were lost.
func far() []int {
	l := []int{math.MinInt, math.MinInt + 1, math.MaxInt, math.MaxInt - 1, -1 << 32, -1 << 31}
	for _, n := range []int{0, 1, 2, 5, 10, 100} {
		l = append(l, n+1<<32, n-1<<32, n+1<<40)
	}
	return l
}

// wrongMoments are no moments.
func wrongMoments() []int {
	return append(far(), -2, -1, maxTick+1, maxTick+2, maxDue)
}

// wrongRules are rules that may not be, each for one reason.
func wrongRules() []api.Rules {
	var out []api.Rules
	for _, r := range []api.Rules{ours(), {Wait: 1, Tries: 1, Life: 1}, {Wait: 4096, Tries: 16, Life: 65536}} {
		for _, n := range append(far(), -7, -1, 0, 4097, 4098, 65536) {
			out = append(out, api.Rules{Wait: n, Tries: r.Tries, Life: r.Life})
		}
		for _, n := range append(far(), -5, -1, 0, 17, 18, 258) {
			out = append(out, api.Rules{Wait: r.Wait, Tries: n, Life: r.Life})
		}
		for _, n := range append(far(), -77, -1, 0, 65537, 65538, maxTick) {
			out = append(out, api.Rules{Wait: r.Wait, Tries: r.Tries, Life: n})
		}
	}
	return append(out, api.Rules{})
}

// rightRules are rules at each edge.
func rightRules() []api.Rules {
	var out []api.Rules
	for _, w := range []int{1, 2, 4095, 4096} {
		for _, n := range []int{1, 2, 15, 16} {
			for _, life := range []int{1, 2, 65535, 65536} {
				out = append(out, api.Rules{Wait: w, Tries: n, Life: life})
			}
		}
	}
	return out
}

// wrongNodes are no nodes.
func wrongNodes() []int {
	return append(far()[:6], 1+1<<32, 2-1<<32, -6, -1, 0, 7, 8, 256+2)
}

// wrongLtps are sessions that may not be, each for one reason.
func wrongLtps() map[string]api.Ltp {
	out := map[string]api.Ltp{"zero": {}}
	for i, l := range []api.Ltp{unlike(), full(), withOut(withIn(unlike(), 8), 8)} {
		add := func(what string, f func(l *api.Ltp)) {
			out[fmt.Sprint(what, " of ", i)] = changed(l, f)
		}
		wrongOut(add)
		wrongIn(add)
		wrongClosed(add)
		add("Next 0", func(l *api.Ltp) { l.Next = 0 })
		for _, r := range wrongRules() {
			add(fmt.Sprintf("%+v", r), func(l *api.Ltp) { l.Rules = r })
		}
		for _, n := range append(wrongNodes(), 1, 3, 4, 5, 6) {
			add(fmt.Sprint("Node ", n), func(l *api.Ltp) { l.Node = n })
		}
	}
	for _, n := range wrongNodes() {
		out[fmt.Sprint("Node ", n, " without sessions")] = changed(bareLtp(), func(l *api.Ltp) { l.Node = n })
	}
	for _, r := range wrongRules() {
		out[fmt.Sprintf("%+v without sessions", r)] = changed(bareLtp(), func(l *api.Ltp) { l.Rules = r })
	}
	out["Next 0 without sessions"] = changed(bareLtp(), func(l *api.Ltp) { l.Next = 0 })
	tooMany(out)
	return out
}

// tooMany are sessions of which there is one more than there may be, or many more.
func tooMany(out map[string]api.Ltp) {
	for _, n := range []int{9, 10, 16, 200} {
		out[fmt.Sprint(n, " of Out")] = withOut(unlike(), n)
		out[fmt.Sprint(n, " of Out, and no others")] = withOut(bareLtp(), n)
		out[fmt.Sprint(n, " of In")] = withIn(unlike(), n)
		out[fmt.Sprint(n, " of In, and no others")] = withIn(bareLtp(), n)
	}
	for _, n := range []int{17, 18, 24, 300} {
		out[fmt.Sprint(n, " of Closed")] = withClosed(unlike(), n)
		out[fmt.Sprint(n, " of Closed, and no others")] = withClosed(bareLtp(), n)
	}
}

func wrongOut(add func(what string, f func(l *api.Ltp))) {
	for i := range 3 {
		one := func(what string, f func(o *api.Outward)) {
			add(fmt.Sprint("Out ", i, ": ", what), func(l *api.Ltp) { f(&l.Out[i]) })
		}
		for _, n := range append(wrongNodes(), 2) {
			one(fmt.Sprint("To ", n), func(o *api.Outward) { o.To = n })
		}
		for _, n := range []int{2, 4} {
			one(fmt.Sprint("State ", n), func(o *api.Outward) { o.Sending.State = n })
		}
		for _, n := range []int{1, 3, 6} {
			one(fmt.Sprint("Source ", n), func(o *api.Outward) { o.Sending.Source, o.Sending.Last.Source = n, n })
		}
		for _, n := range []int{1, 6, 8, 4096} {
			one(fmt.Sprint("Wait ", n), func(o *api.Outward) { o.Sending.Wait = n })
		}
		for _, n := range []int{6, 16} {
			one(fmt.Sprint("Tries ", n), func(o *api.Outward) { o.Sending.Tries = n })
		}
		one("Tries 4", func(o *api.Outward) { o.Sending.Tries, o.Sending.Asked = 4, 4 })
		one("what may not be: State 0", func(o *api.Outward) { o.Sending.State = 0 })
		one("what may not be: State 5", func(o *api.Outward) { o.Sending.State = 5 })
		one("what may not be: Asked", func(o *api.Outward) { o.Sending.Asked = 6 })
		one("what may not be: Due", func(o *api.Outward) { o.Sending.Due = -1 })
		one("what may not be: Got", func(o *api.Outward) { o.Sending.Got = rows(0, 513) })
		one("what may not be: Seen", func(o *api.Outward) { o.Sending.Seen = []uint32{0} })
		one("what may not be: Reason", func(o *api.Outward) { o.Sending.Reason = 256 })
		one("what may not be: Session 0", func(o *api.Outward) { o.Sending.Session, o.Sending.Last.Session = 0, 0 })
		one("what may not be: Last", func(o *api.Outward) { o.Sending.Last.Data[0]++ })
		one("what may not be: no Block", func(o *api.Outward) { o.Sending.Block = nil })
		one("nothing", func(o *api.Outward) { *o = api.Outward{} })
		one("no session", func(o *api.Outward) { o.Sending = api.Sending{} })
		for j := range 3 {
			if j != i {
				add(fmt.Sprint("Out ", i, " is ", j, ", too"), func(l *api.Ltp) { l.Out[i] = l.Out[j] })
				add(fmt.Sprint("Out ", i, " has the number of ", j), func(l *api.Ltp) { l.Out[i] = outward(6, l.Out[j].Sending.Session, 33) })
			}
		}
	}
}

func wrongIn(add func(what string, f func(l *api.Ltp))) {
	for i := range 3 {
		one := func(what string, f func(s *api.Taking)) {
			add(fmt.Sprint("In ", i, ": ", what), func(l *api.Ltp) { f(&l.In[i]) })
		}
		one("done", func(s *api.Taking) {
			*s = taking(who{s.Source, s.Session}, s.Total, rows(0, s.Total)...)
			s.State = 2
		})
		one("over", func(s *api.Taking) { s.State = 4 })
		one("over, with nothing", func(s *api.Taking) { *s = taking(who{s.Source, s.Session}, s.Total); s.State = 4 })
		for _, n := range []int{1, 76, 78, 65536} {
			one(fmt.Sprint("Life ", n), func(s *api.Taking) { s.Life = n })
		}
		one("Source 2", func(s *api.Taking) { s.Source = 2 })
		for _, n := range wrongNodes() {
			one(fmt.Sprint("what may not be: Source ", n), func(s *api.Taking) { s.Source = n })
		}
		one("what may not be: Session 0", func(s *api.Taking) { s.Session = 0 })
		one("what may not be: Total", func(s *api.Taking) { s.Total++ })
		one("what may not be: State 2", func(s *api.Taking) { s.State = 2 })
		one("what may not be: State 3", func(s *api.Taking) { s.State = 3 })
		one("what may not be: Due", func(s *api.Taking) { s.Due = maxDue + 1 })
		one("what may not be: Got", func(s *api.Taking) { s.Got = rows(0, 1, 1, 1) })
		one("what may not be: all of it open", func(s *api.Taking) { s.Got = rows(0, s.Total) })
		one("nothing", func(s *api.Taking) { *s = api.Taking{} })
		for j := range 3 {
			if j != i {
				add(fmt.Sprint("In ", i, " is ", j, ", too"), func(l *api.Ltp) { l.In[i] = l.In[j] })
				add(fmt.Sprint("In ", i, " has the numbers of ", j), func(l *api.Ltp) { l.In[i] = taking(who{l.In[j].Source, l.In[j].Session}, 21) })
			}
		}
		for j := range 4 {
			add(fmt.Sprint("In ", i, " has the numbers of Closed ", j), func(l *api.Ltp) { l.In[i] = taking(who{l.Closed[j].Source, l.Closed[j].Session}, 21) })
		}
	}
}

func wrongClosed(add func(what string, f func(l *api.Ltp))) {
	for i := range 4 {
		one := func(what string, f func(c *api.Closed)) {
			add(fmt.Sprint("Closed ", i, ": ", what), func(l *api.Ltp) { f(&l.Closed[i]) })
		}
		for _, n := range append(wrongNodes(), 2) {
			one(fmt.Sprint("Source ", n), func(c *api.Closed) { c.Source = n })
		}
		one("Session 0", func(c *api.Closed) { c.Session = 0 })
		for _, n := range append(far(), -33, -1, 0, 513, 514, 1024) {
			one(fmt.Sprint("Total ", n), func(c *api.Closed) { c.Total = n })
		}
		one("nothing", func(c *api.Closed) { *c = api.Closed{} })
		for j := range 4 {
			if j != i {
				add(fmt.Sprint("Closed ", i, " is ", j, ", too"), func(l *api.Ltp) { l.Closed[i] = l.Closed[j] })
				add(fmt.Sprint("Closed ", i, " has the numbers of ", j), func(l *api.Ltp) { l.Closed[i].Source, l.Closed[i].Session = l.Closed[j].Source, l.Closed[j].Session })
			}
		}
		for j := range 3 {
			add(fmt.Sprint("Closed ", i, " has the numbers of In ", j), func(l *api.Ltp) { l.Closed[i].Source, l.Closed[i].Session = l.In[j].Source, l.In[j].Session })
		}
	}
}

// The layer, told once more: what becomes of a session is told by a number for what it was and what it is.

func mayRules(r api.Rules) bool {
	return r.Wait > 0 && r.Wait < 4097 && r.Tries > 0 && r.Tries < 17 && r.Life > 0 && r.Life < 65537
}

func mayNode(n int) bool {
	return n > 0 && n < 7
}

func may(l api.Ltp) bool {
	if !mayNode(l.Node) || !mayRules(l.Rules) || l.Next == 0 || len(l.Out) > 8 || len(l.In) > 8 || len(l.Closed) > 16 {
		return false
	}
	numbers, sessions := map[uint32]int{}, map[who]int{}
	for _, o := range l.Out {
		s := o.Sending
		numbers[s.Session]++
		if sender.Check(s) != api.OK || s.State%2 == 0 || s.Source != l.Node || s.Wait != l.Rules.Wait || s.Tries != l.Rules.Tries || !mayNode(o.To) || o.To == l.Node {
			return false
		}
	}
	for _, s := range l.In {
		sessions[who{s.Source, s.Session}]++
		if receiver.Check(s) != api.OK || s.State != 1 || s.Life != l.Rules.Life || s.Source == l.Node {
			return false
		}
	}
	for _, c := range l.Closed {
		sessions[who{c.Source, c.Session}]++
		if !mayNode(c.Source) || c.Source == l.Node || c.Session == 0 || c.Total < 1 || c.Total > 512 {
			return false
		}
	}
	return len(numbers) == len(l.Out) && len(sessions) == len(l.In)+len(l.Closed)
}

// toldWrong is the error that sessions and a moment have.
func toldWrong(l api.Ltp, now int) api.Errno {
	switch {
	case !may(l):
		return api.ErrLtp
	case now < 0 || now > maxTick:
		return api.ErrArg
	}
	return api.OK
}

func toldStart(l api.Ltp, to int, block []byte, now int) answer {
	e := toldWrong(l, now)
	switch {
	case e != api.OK:
		return answer{e: e}
	case !mayNode(to) || to == l.Node || len(block) < 1 || len(block) > 512:
		return answer{e: api.ErrArg}
	case len(l.Out) > 7 || l.Next+1 == 0:
		return answer{e: api.ErrFull}
	}
	a := answer{l: deep(l)}
	s, sent, _ := sender.New(api.Start{Source: l.Node, Session: l.Next, Block: block, Wait: l.Rules.Wait, Tries: l.Rules.Tries}, now)
	a.says(to, sent...)
	a.l.Out = append(a.l.Out, api.Outward{To: to, Sending: s})
	a.l.Next = l.Next + 1
	return a
}

func (a *answer) says(to int, l ...api.Segment) {
	for _, x := range l {
		a.said = append(a.said, api.Say{To: to, Segment: x})
	}
}

// out turns those of Out that are asked for; whether there was one.
func (a *answer) out(which func(o api.Outward) bool, f func(s api.Sending) (api.Sending, []api.Segment, api.Errno)) bool {
	var kept []api.Outward
	turned := false
	for _, o := range a.l.Out {
		if !which(o) {
			kept = append(kept, o)
			continue
		}
		turned = true
		s, sent, _ := f(o.Sending)
		a.says(o.To, sent...)
		if kind := map[int]int{12: 2, 13: 3, 14: 3}[o.Sending.State*10+s.State]; kind != 0 {
			a.heard = append(a.heard, api.Heard{Kind: kind, Peer: o.To, Session: s.Session})
		}
		if s.State%2 == 1 {
			kept = append(kept, api.Outward{To: o.To, Sending: s})
		}
	}
	a.l.Out = kept
	return turned
}

// in turns those of In that are asked for; whether there was one.
func (a *answer) in(which func(s api.Taking) bool, f func(s api.Taking) (api.Taking, []api.Segment, api.Errno)) bool {
	was := a.l.In
	a.l.In = nil
	turned := false
	for _, s := range was {
		if !which(s) {
			a.l.In = append(a.l.In, s)
			continue
		}
		turned = true
		s, sent, _ := f(s)
		a.says(s.Source, sent...)
		a.came(s)
	}
	return turned
}

// came is what a session that takes in is now: open, done or over.
func (a *answer) came(s api.Taking) {
	if s.State == 1 {
		a.l.In = append(a.l.In, s)
		return
	}
	if s.State == 2 {
		a.heard = append(a.heard, api.Heard{Kind: 1, Peer: s.Source, Session: s.Session, Block: slices.Clone(s.Bytes)})
	}
	a.l.Closed = append(a.l.Closed, api.Closed{Source: s.Source, Session: s.Session, Total: s.Total, Done: s.State == 2, Serial: s.Serial})
	if len(a.l.Closed) == 17 {
		a.l.Closed = a.l.Closed[1:]
	}
}

func toldTake(l api.Ltp, from int, x api.Segment, now int) answer {
	if e := toldWrong(l, now); e != api.OK {
		return answer{e: e}
	}
	forward := x.Kind == 1 || x.Kind == 3 || x.Kind == 4 || x.Kind == 7
	if !mayNode(from) || from == l.Node || segment.Check(x) != api.OK || forward && x.Source != from || !forward && x.Source != l.Node {
		return answer{e: api.ErrArg}
	}
	a := answer{l: deep(l)}
	if forward {
		a.forward(from, x, now)
	} else {
		a.back(from, x, now)
	}
	return a
}

func (a *answer) forward(from int, x api.Segment, now int) {
	w := who{from, x.Session}
	turned := a.in(func(s api.Taking) bool { return w == who{s.Source, s.Session} }, func(s api.Taking) (api.Taking, []api.Segment, api.Errno) { return receiver.Take(s, x, now) })
	if turned {
		return
	}
	if x.Kind == 4 {
		a.says(from, bare(w, 5))
		return
	}
	if x.Kind != 1 {
		return
	}
	for i, c := range a.l.Closed {
		if w != (who{c.Source, c.Session}) {
			continue
		}
		if x.Serial > 0 && c.Done && c.Total == x.Total {
			a.l.Closed[i].Serial = max(1, c.Serial+1)
			a.says(from, report(w, max(1, c.Serial+1), x.Serial, c.Total, rows(0, c.Total)...))
		} else if x.Serial > 0 {
			a.says(from, stop(w, 5))
		}
		return
	}
	if len(a.l.In) < 8 {
		s, sent, _ := receiver.New(x, now, a.l.Rules.Life)
		a.says(from, sent...)
		a.came(s)
	}
}

func (a *answer) back(from int, x api.Segment, now int) {
	which := func(o api.Outward) bool { return o.To == from && o.Sending.Session == x.Session }
	if a.out(which, func(s api.Sending) (api.Sending, []api.Segment, api.Errno) { return sender.Take(s, x, now) }) {
		return
	}
	switch x.Kind {
	case 2:
		a.says(from, ack(who{x.Source, x.Session}, x.Serial))
	case 6:
		a.says(from, bare(who{x.Source, x.Session}, 7))
	}
}

func toldTick(l api.Ltp, now int) answer {
	if e := toldWrong(l, now); e != api.OK {
		return answer{e: e}
	}
	a := answer{l: deep(l)}
	a.out(func(api.Outward) bool { return true }, func(s api.Sending) (api.Sending, []api.Segment, api.Errno) { return sender.Tick(s, now) })
	a.in(func(api.Taking) bool { return true }, func(s api.Taking) (api.Taking, []api.Segment, api.Errno) { return receiver.Tick(s, now) })
	return a
}

func toldCancel(l api.Ltp, session uint32, now int) answer {
	if e := toldWrong(l, now); e != api.OK {
		return answer{e: e}
	}
	a := answer{l: deep(l)}
	if !a.out(func(o api.Outward) bool { return o.Sending.Session == session }, func(s api.Sending) (api.Sending, []api.Segment, api.Errno) { return sender.Cancel(s, now) }) {
		return answer{e: api.ErrNone}
	}
	return a
}

// Sessions and segments by chance, the same at each run.

type dice struct {
	*rand.Rand
}

func chance(seed uint64) dice {
	return dice{rand.New(rand.NewPCG(seed, 16))}
}

// rows lie below an end.
func (d dice) rows(end int) []api.Claim {
	var l []api.Claim
	wide, apart := 1+d.IntN(1+d.IntN(200)), 1+d.IntN(1+d.IntN(120))
	for at := d.IntN(2) * d.IntN(40); at < end; {
		n := 1 + d.IntN(min(end-at, wide))
		l = append(l, api.Claim{At: at, N: n})
		at += n + 1 + d.IntN(apart)
	}
	return l[:min(len(l), 20)]
}

// sound asks whether an answer may be: the sessions, each segment that is said, which is one that who it is said to takes, and what is heard.
func sound(t *testing.T, a answer) {
	t.Helper()
	if a.e != api.OK || ltp.Check(a.l) != api.OK || !may(a.l) {
		t.Fatalf("the sessions may not be: %+v, error %d", a.l, a.e)
	}
	for _, s := range a.said {
		source := s.To
		if segment.Forward(s.Segment) {
			source = a.l.Node
		}
		if !mayNode(s.To) || s.To == a.l.Node || segment.Check(s.Segment) != api.OK || s.Segment.Source != source {
			t.Fatalf("it says %+v", s)
		}
	}
	for _, h := range a.heard {
		if h.Kind < 1 || h.Kind > 3 || !mayNode(h.Peer) || h.Peer == a.l.Node || h.Session == 0 || (h.Kind == 1) != (len(h.Block) > 0) {
			t.Fatalf("it hears %+v", h)
		}
	}
}
