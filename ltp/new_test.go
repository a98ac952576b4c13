package ltp_test

import (
	"math"
	"slices"
	"testing"

	"heliograph/api"
	"heliograph/ltp"
	"heliograph/sender"
)

// P16.1: each node, boots and rules at their edges.
func TestNew(t *testing.T) {
	for node := 1; node <= 6; node++ {
		for _, boot := range []uint32{1, 2, 3, 255, 256, 32768, 65534, 65535} {
			for _, r := range append(rightRules(), ours()) {
				a := ofNew(ltp.New(node, boot, r))
				wants(t, text(r), a, answer{l: api.Ltp{Node: node, Rules: r, Next: 65536 * boot}})
				sound(t, a)
			}
		}
	}
}

// P16.1: the chapter's example begins with the number 65536.
func TestNewOfTheExample(t *testing.T) {
	for node := 1; node <= 2; node++ {
		wants(t, "boot 1", ofNew(ltp.New(node, 1, exampleRules())), answer{l: api.Ltp{Node: node, Rules: exampleRules(), Next: 65536}})
	}
}

// P16.1: ErrArg, and nothing else, for what is out of its range.
func TestNewRefuses(t *testing.T) {
	for _, n := range wrongNodes() {
		refuses(t, text(n), ofNew(ltp.New(n, 1, ours())), api.ErrArg)
	}
	for _, boot := range []uint32{0, 65536, 65537, 1 << 17, 1 << 31, math.MaxUint32 - 65535, math.MaxUint32} {
		refuses(t, text(boot), ofNew(ltp.New(1, boot, ours())), api.ErrArg)
	}
	for _, r := range wrongRules() {
		refuses(t, text(r), ofNew(ltp.New(1, 1, r)), api.ErrArg)
	}
	refuses(t, "all wrong", ofNew(ltp.New(0, 0, api.Rules{})), api.ErrArg)
}

// P16.1: a greater boot gives no number twice: what lies between is as many as a node could begin.
func TestBootsLieApart(t *testing.T) {
	was := uint32(0)
	for boot := uint32(1); boot <= 65535; boot++ {
		l, e := ltp.New(3, boot, ours())
		if e != api.OK || l.Next != was+65536 {
			t.Fatalf("boot %d: Next %d behind %d, error %d", boot, l.Next, was, e)
		}
		was = l.Next
	}
}

// exampleRules are those of the chapter's examples.
func exampleRules() api.Rules {
	return api.Rules{Wait: 10, Tries: 2, Life: 100}
}

// P16.2 to P16.4: the chapter's examples, each field of what is answered.
func TestExamples(t *testing.T) {
	a, _ := ltp.New(1, 1, exampleRules())
	b, _ := ltp.New(2, 1, exampleRules())
	w := who{1, 65536}
	one := ofStart(ltp.Start(a, 2, fill(65536, 150), 0))
	s, sent, _ := sender.New(api.Start{Source: 1, Session: 65536, Block: fill(65536, 150), Wait: 10, Tries: 2}, 0)
	wants(t, "Start", one, answer{l: api.Ltp{Node: 1, Rules: exampleRules(), Next: 65537, Out: []api.Outward{{To: 2, Sending: s}}}, said: []api.Say{{To: 2, Segment: data(w, 150, 0, 100, 0)}, {To: 2, Segment: data(w, 150, 100, 50, 1)}}})
	if len(sent) != 2 {
		t.Fatal(sent)
	}
	two := of(ltp.Take(b, 1, sent[0], 0))
	in := api.Taking{Source: 1, Session: 65536, Total: 150, Bytes: append(fill(65536, 150)[:100], make([]byte, 50)...), Got: rows(0, 100), State: 1, Life: 100, Due: 100}
	wants(t, "the first one", two, answer{l: api.Ltp{Node: 2, Rules: exampleRules(), Next: 65536, In: []api.Taking{in}}})
	two = of(ltp.Take(two.l, 1, sent[1], 0))
	closed := api.Closed{Source: 1, Session: 65536, Total: 150, Done: true, Serial: 1}
	wants(t, "the second one", two, answer{l: api.Ltp{Node: 2, Rules: exampleRules(), Next: 65536, Closed: []api.Closed{closed}},
		said: []api.Say{{To: 1, Segment: report(w, 1, 1, 150, rows(0, 150)...)}}, heard: []api.Heard{{Kind: api.HeardBlock, Peer: 1, Session: 65536, Block: fill(65536, 150)}}})
	three := of(ltp.Take(one.l, 2, two.said[0].Segment, 0))
	wants(t, "the report", three, answer{l: api.Ltp{Node: 1, Rules: exampleRules(), Next: 65537}, said: []api.Say{{To: 2, Segment: ack(w, 1)}}, heard: []api.Heard{{Kind: api.HeardSent, Peer: 2, Session: 65536}}})
	four := of(ltp.Take(two.l, 1, sent[1], 0))
	closed.Serial = 2
	wants(t, "the second one again", four, answer{l: api.Ltp{Node: 2, Rules: exampleRules(), Next: 65536, Closed: []api.Closed{closed}}, said: []api.Say{{To: 1, Segment: report(w, 2, 1, 150, rows(0, 150)...)}}})
	refuses(t, "Start to itself", ofStart(ltp.Start(a, 1, []byte{1}, 0)), api.ErrArg)
	refuses(t, "another Source", of(ltp.Take(a, 3, data(who{2, 5}, 2, 0, 2, 0), 0)), api.ErrArg)
	refuses(t, "Cancel(7)", of(ltp.Cancel(a, 7, 0)), api.ErrNone)
}

// P16.2: to each other node, with blocks at their edges, at moments at theirs, from each of many beginnings.
func TestStart(t *testing.T) {
	for _, l := range []api.Ltp{bareLtp(), unlike(), withOut(full(), 7), changed(unlike(), func(l *api.Ltp) { l.Next = 1 }), changed(unlike(), func(l *api.Ltp) { l.Next = math.MaxUint32 - 1 })} {
		for _, to := range []int{1, 3, 4, 5, 6} {
			for _, n := range []int{1, 2, 100, 101, 200, 511, 512} {
				for _, now := range []int{0, 1, 77, maxTick - 1, maxTick} {
					a := ofStart(ltp.Start(l, to, fill(9, n), now))
					wants(t, text([]int{to, n, now}), a, toldStart(l, to, fill(9, n), now))
					sound(t, a)
					last := a.l.Out[len(a.l.Out)-1]
					if last.To != to || last.Sending.Session != l.Next || a.l.Next != l.Next+1 || last.Sending.Due != now+7 || !slices.Equal(last.Sending.Block, fill(9, n)) || len(a.said) != (n+99)/100 {
						t.Fatalf("%+v", a)
					}
				}
			}
		}
	}
}

// P16.2: what a new session says are the pieces of its block, to its node, with the checkpoint at the end.
func TestStartSays(t *testing.T) {
	a := ofStart(ltp.Start(unlike(), 6, fill(200010, 250), 30))
	w := who{2, 200010}
	want := answer{l: changed(unlike(), func(l *api.Ltp) {
		l.Next = 200011
		o := outward(6, 200010, 250)
		o.Sending.Due, o.Sending.Last = 37, data(w, 250, 200, 50, 1)
		l.Out = append(l.Out, o)
	})}
	want.says(6, data(w, 250, 0, 100, 0), data(w, 250, 100, 100, 0), data(w, 250, 200, 50, 1))
	wants(t, "Start", a, want)
}

// P16.2: ErrArg for what may not be handed in, also where there would be no room.
func TestStartRefuses(t *testing.T) {
	for _, l := range []api.Ltp{unlike(), full(), changed(full(), func(l *api.Ltp) { l.Next = math.MaxUint32 })} {
		for _, to := range append(wrongNodes(), 2) {
			refuses(t, text(to), ofStart(ltp.Start(l, to, fill(1, 9), 0)), api.ErrArg)
		}
		for _, n := range []int{0, 513, 514, 1024, 65537} {
			refuses(t, text(n), ofStart(ltp.Start(l, 1, make([]byte, n), 0)), api.ErrArg)
		}
		refuses(t, "nil", ofStart(ltp.Start(l, 1, nil, 0)), api.ErrArg)
		for _, now := range wrongMoments() {
			refuses(t, text(now), ofStart(ltp.Start(l, 1, fill(1, 9), now)), api.ErrArg)
		}
	}
	for node := 1; node <= 6; node++ {
		l, _ := ltp.New(node, 1, ours())
		for to := 1; to <= 6; to++ {
			a := ofStart(ltp.Start(l, to, fill(1, 9), 0))
			if to == node != (a.e == api.ErrArg) || to != node && a.e != api.OK {
				t.Errorf("from %d to %d: error %d", node, to, a.e)
			}
		}
	}
}

// P16.2: ErrFull with MaxSessions sessions that send, and when no number is left; how many take in does not count.
func TestStartWithoutRoom(t *testing.T) {
	for n := range 9 {
		a := ofStart(ltp.Start(withOut(full(), n), 3, fill(1, 9), 5))
		if n == 8 {
			refuses(t, "8 sessions", a, api.ErrFull)
		} else if sound(t, a); len(a.l.Out) != n+1 {
			t.Errorf("%d sessions: %+v", n, a)
		}
	}
	for _, l := range []api.Ltp{bareLtp(), unlike(), full()} {
		l.Next = math.MaxUint32
		refuses(t, "no number", ofStart(ltp.Start(l, 3, fill(1, 9), 5)), api.ErrFull)
	}
	l := bareLtp()
	l.Next = math.MaxUint32 - 2
	for n := range 2 {
		a := ofStart(ltp.Start(l, 3, fill(1, 9), 5))
		if sound(t, a); a.l.Out[n].Sending.Session != math.MaxUint32-2+uint32(n) {
			t.Errorf("%+v", a)
		}
		l = a.l
	}
	if l.Next != math.MaxUint32 {
		t.Errorf("Next %d", l.Next)
	}
	refuses(t, "the greatest number", ofStart(ltp.Start(l, 3, fill(1, 9), 5)), api.ErrFull)
}

// P16.2: sessions that are given up, and wait for an answer to that, have their place still.
func TestStartBesideOnesGivenUp(t *testing.T) {
	l := withOut(unlike(), 8)
	for i := range l.Out {
		l.Out[i].Sending.State = 3
	}
	refuses(t, "8 given up", ofStart(ltp.Start(l, 3, fill(1, 9), 5)), api.ErrFull)
	a := of(ltp.Take(l, l.Out[6].To, bare(who{2, l.Out[6].Sending.Session}, 5), 5))
	sound(t, a)
	sound(t, ofStart(ltp.Start(a.l, 3, fill(1, 9), 5)))
}
