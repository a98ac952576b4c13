package ltp_test

import (
	"bytes"
	"fmt"
	"slices"
	"testing"

	"heliograph/api"
	"heliograph/ltp"
)

// sending is a block that was sent: to whom, and what was heard of it, there and here.
type sending struct {
	to         int
	block      []byte
	came       int // how often HeardBlock was heard
	sent, lost int
}

// talk is some nodes, what is on its way between them, which node said it, and what they have sent; of a hundred segments loss are lost.
type talk struct {
	t     *testing.T
	d     dice
	nodes map[int]api.Ltp
	way   []api.Say
	from  []int
	sends map[who]*sending
	loss  int
	once  bool // so few are sent that all are remembered
	now   int
}

// talks begins a talk of so many nodes.
func talks(t *testing.T, d dice, nodes int, r api.Rules, loss int) *talk {
	k := &talk{t: t, d: d, nodes: map[int]api.Ltp{}, sends: map[who]*sending{}, loss: loss}
	for n := 1; n <= nodes; n++ {
		l, e := ltp.New(n, 1+uint32(d.IntN(65535)), r)
		if e != api.OK {
			t.Fatal(e)
		}
		k.nodes[n] = l
	}
	return k
}

// settles keeps what a node is behind a call, sends what it says, and asks for what P16.6 says of what it hears.
func (k *talk) settles(n int, a, want answer) {
	k.t.Helper()
	wants(k.t, fmt.Sprint("node ", n, " at ", k.now), a, want)
	sound(k.t, a)
	for _, h := range a.heard {
		k.hears(n, h, a.l)
	}
	k.nodes[n] = a.l
	for _, s := range a.said {
		for range 1 + k.d.IntN(100)/85 {
			if k.d.IntN(100) >= k.loss {
				k.way, k.from = append(k.way, s), append(k.from, n)
			}
		}
	}
}

// hears asks whether what a node hears has happened, and was not heard before.
func (k *talk) hears(n int, h api.Heard, l api.Ltp) {
	k.t.Helper()
	if h.Kind == api.HeardBlock {
		w := who{h.Peer, h.Session}
		s := k.sends[w]
		was := func(c api.Closed) bool { return w == who{c.Source, c.Session} }
		if s == nil || s.to != n || !bytes.Equal(s.block, h.Block) || slices.ContainsFunc(k.nodes[n].Closed, was) || !slices.ContainsFunc(l.Closed, was) {
			k.t.Fatalf("the node %d hears %+v of %+v", n, h, s)
		}
		if s.came++; s.came > 1 && k.once {
			k.t.Fatalf("the node %d hears %+v again", n, h)
		}
		return
	}
	s := k.sends[who{n, h.Session}]
	if s == nil || s.to != h.Peer || s.sent+s.lost > 0 || len(h.Block) > 0 || h.Kind == api.HeardSent && s.came == 0 {
		k.t.Fatalf("the node %d hears %+v of %+v", n, h, s)
	}
	if h.Kind == api.HeardSent {
		s.sent++
	} else {
		s.lost++
	}
}

// start has a node send a block to another one, if it has room.
func (k *talk) start(n, to int) {
	k.t.Helper()
	block := make([]byte, 1+k.d.IntN(1+k.d.IntN(512)))
	for i := range block {
		block[i] = byte(k.d.IntN(256))
	}
	l := k.nodes[n]
	a := ofStart(ltp.Start(l, to, block, k.now))
	if len(l.Out) == 8 {
		refuses(k.t, "Start", a, api.ErrFull)
		return
	}
	if k.sends[who{n, l.Next}] != nil {
		k.t.Fatalf("the number %d once more", l.Next)
	}
	k.sends[who{n, l.Next}] = &sending{to: to, block: block}
	k.settles(n, a, toldStart(l, to, block, k.now))
}

// cancel has a node give one of its blocks up.
func (k *talk) cancel(n int) {
	k.t.Helper()
	l := k.nodes[n]
	if len(l.Out) > 0 {
		x := l.Out[k.d.IntN(len(l.Out))].Sending.Session
		k.settles(n, of(ltp.Cancel(l, x, k.now)), toldCancel(l, x, k.now))
	}
}

// arrives hands a segment over that is on its way: any one of the first few, so some are overtaken.
func (k *talk) arrives() {
	k.t.Helper()
	i := 0
	if k.loss > 0 {
		i = k.d.IntN(min(len(k.way), 6))
	}
	x, from := k.way[i], k.from[i]
	k.way, k.from = slices.Delete(k.way, i, i+1), slices.Delete(k.from, i, i+1)
	l := k.nodes[x.To]
	k.settles(x.To, of(ltp.Take(l, from, x.Segment, k.now)), toldTake(l, from, x.Segment, k.now))
}

// tick lets a moment go by for all, and some of what is on its way come in.
func (k *talk) tick() {
	k.t.Helper()
	k.now++
	for n := 1; n <= len(k.nodes); n++ {
		k.settles(n, of(ltp.Tick(k.nodes[n], k.now)), toldTick(k.nodes[n], k.now))
	}
	for n := k.d.IntN(12); n > 0 && len(k.way) > 0; n-- {
		k.arrives()
	}
}

// ends lets moments go by till no node has sessions, and nothing is on its way.
func (k *talk) ends() {
	k.t.Helper()
	for range 3000 {
		going := len(k.way)
		for _, l := range k.nodes {
			going += len(l.Out) + len(l.In)
		}
		if going == 0 {
			return
		}
		k.tick()
	}
	k.t.Fatalf("%+v goes on", k.nodes)
}

// told counts what was heard of all that was sent: of each one just one thing.
func (k *talk) told() (sent, lost, came int) {
	k.t.Helper()
	for w, s := range k.sends {
		if s.sent+s.lost != 1 || s.sent == 1 && s.came == 0 {
			k.t.Fatalf("%+v: %+v", w, s)
		}
		sent, lost, came = sent+s.sent, lost+s.lost, came+s.came
	}
	return sent, lost, came
}

// P16.6: whole talks of two nodes, both ways, with segments lost, doubled and overtaken: few enough that all sessions are remembered.
func TestTalks(t *testing.T) {
	d := chance(3)
	sent, lost, came := 0, 0, 0
	for i := range 120 {
		k := talks(t, d, 2, api.Rules{Wait: 4 + d.IntN(20), Tries: 1 + d.IntN(6), Life: 20 + d.IntN(300)}, []int{0, 10, 30, 60}[i%4])
		k.once = true
		for n := range 16 {
			k.start(1, 2)
			k.start(2, 1)
			for range d.IntN(20) {
				k.tick()
			}
			if n%5 == 4 {
				k.cancel(1 + d.IntN(2))
			}
		}
		k.ends()
		s, l, c := k.told()
		sent, lost, came = sent+s, lost+l, came+c
	}
	if sent < 1000 || lost < 200 || came < sent || came > sent+lost {
		t.Errorf("%d were sent, %d lost, %d came in", sent, lost, came)
	}
}

// P16.6: long talks of several nodes, of which more sessions end than are remembered, and that have no room now and then.
func TestLongTalks(t *testing.T) {
	d := chance(4)
	sent, lost := 0, 0
	for i := range 30 {
		k := talks(t, d, 2+d.IntN(5), api.Rules{Wait: 2 + d.IntN(12), Tries: 1 + d.IntN(5), Life: 5 + d.IntN(100)}, []int{0, 10, 30, 60, 95}[i%5])
		for range 150 {
			for range d.IntN(4) {
				n := 1 + d.IntN(len(k.nodes))
				k.start(n, 1+(n+d.IntN(len(k.nodes)-1))%len(k.nodes))
			}
			if d.IntN(20) == 0 {
				k.cancel(1 + d.IntN(len(k.nodes)))
			}
			k.tick()
		}
		k.ends()
		s, l, _ := k.told()
		sent, lost = sent+s, lost+l
	}
	if sent < 800 || lost < 800 {
		t.Errorf("%d were sent, %d lost", sent, lost)
	}
}

// P16.6: with nothing lost, and answers in time, all blocks come in once, and all are heard to be sent.
func TestTalksWithoutLoss(t *testing.T) {
	d := chance(5)
	for range 40 {
		k := talks(t, d, 2, api.Rules{Wait: 300, Tries: 2, Life: 1000}, 0)
		k.once = true
		for range 8 {
			k.start(1, 2)
			k.start(2, 1)
		}
		k.ends()
		if sent, lost, came := k.told(); sent != 16 || lost != 0 || came != 16 {
			t.Fatalf("%d were sent, %d lost, %d came in", sent, lost, came)
		}
	}
}

// P16.6: HeardSent is heard with the report that claims the last byte, and not ahead of it.
func TestHeardSentOnlyOfAll(t *testing.T) {
	for _, n := range []int{1, 2, 100, 101, 512} {
		w := who{2, 65536}
		a := ofStart(ltp.Start(bareLtp(), 3, fill(65536, n), 0))
		serial := uint32(0)
		take := func(claims ...api.Claim) {
			serial++
			a = of(ltp.Take(a.l, 3, report(w, serial, serial, 512, claims...), 1))
			sound(t, a)
		}
		for at := range n {
			var claims []api.Claim
			if at > 0 {
				claims = append(claims, api.Claim{At: 0, N: at})
			}
			if at+1 < n {
				claims = append(claims, api.Claim{At: at + 1, N: n - at - 1})
			}
			if take(claims...); len(a.heard) > 0 || len(a.l.Out) != 1 {
				t.Fatalf("all but the byte %d of %d: %+v", at, n, a)
			}
		}
		if take(rows(0, n)...); len(a.heard) != 1 || a.heard[0].Kind != api.HeardSent || len(a.l.Out) != 0 {
			t.Fatalf("all %d bytes: %+v", n, a)
		}
	}
}

// P16.6: when answers end, be it at once or behind some, the session is heard to be lost just Tries times Wait and Wait ticks behind the last one that had it send.
func TestHeardLostBehindTheLastAnswer(t *testing.T) {
	for _, answered := range []int{0, 1, 5, 40} {
		w := who{2, 65536}
		a := ofStart(ltp.Start(bareLtp(), 3, fill(65536, 512), 10))
		last := 10
		for i := range answered {
			last += 3
			a = of(ltp.Take(a.l, 3, report(w, uint32(i+1), uint32(i+1), 512, rows(0, i+1)...), last))
			sound(t, a)
		}
		for now := last; now < last+500; now++ {
			a = of(ltp.Tick(a.l, now))
			sound(t, a)
			if at := last + 5*7 + 7; (len(a.heard) == 1) != (now == at) {
				t.Fatalf("%d answers, the last at %d: at %d %+v is heard", answered, last, now, a.heard)
			}
		}
		if len(a.l.Out) != 0 {
			t.Errorf("%+v", a.l)
		}
	}
}

// P16.6: a block is heard once as long as its session is remembered: MaxClosed that end behind it push it out, and then it is heard again.
func TestHeardAgainOnceForgotten(t *testing.T) {
	l := bareLtp()
	x := data(who{3, 1}, 5, 0, 5, 1)
	for i := range 50 {
		a := of(ltp.Take(l, 3, x, i))
		if sound(t, a); len(a.heard) != 1 || len(a.said) != 1 || a.said[0].Segment.Serial != 1 {
			t.Fatalf("%d: %+v", i, a)
		}
		for j := range 16 {
			b := of(ltp.Take(a.l, 3, x, i))
			if sound(t, b); len(b.heard) != 0 || len(b.l.Closed) != min(16, i*17+j+1) || b.said[0].Segment.Serial != uint32(j+2) {
				t.Fatalf("%d, %d: %+v", i, j, b)
			}
			w := who{4, uint32(1 + i*16 + j)}
			a = of(ltp.Take(b.l, 4, data(w, 2, 0, 2, 0), i))
			if sound(t, a); len(a.heard) != 1 {
				t.Fatalf("%d, %d: %+v", i, j, a)
			}
		}
		l = a.l
	}
}

// P16.6: long rows of calls, whatever they are: what is answered may be, is what is told once more, and what is refused tells nothing.
func TestLongRows(t *testing.T) {
	d := chance(6)
	counts := map[string]int{}
	for range 200 {
		l := fine()[d.IntN(8)]
		for now := 4990; now < 5100; now++ {
			var a, want answer
			switch d.IntN(12) {
			case 0:
				a, want = of(ltp.Tick(l, now)), toldTick(l, now)
			case 1, 2:
				to, n := d.IntN(8), d.IntN(514)
				a, want = ofStart(ltp.Start(l, to, fill(l.Next, n), now)), toldStart(l, to, fill(l.Next, n), now)
			case 3:
				n := uint32(200000 + d.IntN(60))
				a, want = of(ltp.Cancel(l, n, now)), toldCancel(l, n, now)
			default:
				from, x := d.segment(l)
				a, want = of(ltp.Take(l, from, x, now)), toldTake(l, from, x, now)
			}
			wants(t, "a long row", a, want)
			counts[fmt.Sprint("error ", int(a.e))]++
			if a.e != api.OK {
				continue
			}
			sound(t, a)
			for _, h := range a.heard {
				counts[fmt.Sprint("heard ", h.Kind)]++
			}
			l = a.l
		}
	}
	for _, what := range []string{"error 0", "error 2", "error 4", "error 6", "heard 1", "heard 2", "heard 3"} {
		if counts[what] < 50 {
			t.Errorf("%s: %d times", what, counts[what])
		}
	}
}

// segment is one for sessions, mostly of one that is there, and the node from which it comes.
func (d dice) segment(l api.Ltp) (int, api.Segment) {
	from, total := 1+d.IntN(6), 1+d.IntN(512)
	forward, back := who{from, 70000 + uint32(d.IntN(4))}, who{l.Node, 200000 + uint32(d.IntN(60))}
	checks := uint32(1)
	switch d.IntN(6) {
	case 0, 1:
		if len(l.In) > 0 {
			s := l.In[d.IntN(len(l.In))]
			from, total, forward = s.Source, s.Total, who{s.Source, s.Session}
		}
	case 2:
		if len(l.Closed) > 0 {
			c := l.Closed[d.IntN(len(l.Closed))]
			from, total, forward = c.Source, c.Total, who{c.Source, c.Session}
		}
	case 3, 4:
		if len(l.Out) > 0 {
			o := l.Out[d.IntN(len(l.Out))]
			from, total, checks, back = o.To, len(o.Sending.Block), o.Sending.Last.Serial, who{l.Node, o.Sending.Session}
		}
		if d.IntN(3) == 0 {
			return from, report(back, 1+uint32(d.IntN(40)), checks, 512, rows(0, total)...)
		}
		return from, report(back, 1+uint32(d.IntN(40)), checks, total, d.rows(total)...)
	}
	if d.IntN(4) > 0 {
		n := 1 + d.IntN(min(total, 100))
		return from, data(forward, total, d.IntN(total-n+1), n, uint32(d.IntN(3)))
	}
	l2 := append(segments(forward, total), segments(back, total)...)
	return from, l2[d.IntN(len(l2))]
}
