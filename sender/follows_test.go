package sender_test

import (
	"bytes"
	"fmt"
	"testing"

	"heliograph/api"
	"heliograph/segment"
	"heliograph/sender"
)

// sound asks whether an answer may be: the session, and each segment, which is one of the session's and goes forward.
func sound(t *testing.T, a answer) {
	t.Helper()
	if a.e != api.OK || sender.Check(a.s) != api.OK || !may(a.s) {
		t.Fatalf("the session may not be: %+v, error %d", a.s, a.e)
	}
	for _, x := range a.sent {
		if segment.Check(x) != api.OK || !segment.Forward(x) || x.Source != a.s.Source || x.Session != a.s.Session {
			t.Fatalf("it sends %+v", x)
		}
	}
}

// taker is who takes a block in: which bytes it has, and how many reports it has sent.
type taker struct {
	block  []byte
	has    []bool
	serial uint32
}

// takes is the taker of a session.
func takes(s api.Sending) *taker {
	return &taker{block: make([]byte, len(s.Block)), has: make([]bool, len(s.Block))}
}

// falls has the taker forget all that came in.
func (r *taker) falls() {
	clear(r.block)
	clear(r.has)
}

// whole tells whether it has just that block.
func (r *taker) whole(block []byte) bool {
	return len(runs(r.has, false)) == 0 && bytes.Equal(r.block, block)
}

// take is what it answers to a segment.
func (r *taker) take(x api.Segment) []api.Segment {
	switch x.Kind {
	case 1:
		for i, b := range x.Data {
			r.block[x.Offset+i], r.has[x.Offset+i] = b, true
		}
		if x.Check {
			r.serial++
			claims := runs(r.has, true)
			return []api.Segment{{Kind: 2, Source: x.Source, Session: x.Session, Serial: r.serial, Checks: x.Serial, Upper: x.Total, Claims: claims[:min(20, len(claims))]}}
		}
	case 4:
		return []api.Segment{{Kind: 5, Source: x.Source, Session: x.Session}}
	}
	return nil
}

// talk is a session and who takes it in, with what is on its way; loss is how many of a hundred are lost.
type talk struct {
	t           *testing.T
	d           dice
	s           api.Sending
	r           *taker
	there, back []api.Segment
	loss        int
	now         int
}

// travels is what is on its way behind a segment: some are lost, some doubled, some overtaken.
func (k *talk) travels(way []api.Segment, l []api.Segment) []api.Segment {
	for _, x := range l {
		for range 1 + k.d.IntN(100)/85 {
			if k.d.IntN(100) < k.loss {
				continue
			}
			way = append(way, x)
			if i := k.d.IntN(len(way)); k.loss > 0 {
				way[i], way[len(way)-1] = way[len(way)-1], way[i]
			}
		}
	}
	return way
}

// heard is what the session makes of what has come back, each asked for what P14.5 says of it.
func (k *talk) heard(x api.Segment) {
	a := of(sender.Take(k.s, x, k.now))
	wants(k.t, text(x), a, toldTake(k.s, x, k.now))
	sound(k.t, a)
	again(k.t, a)
	k.s = a.s
	k.there = k.travels(k.there, a.sent)
}

// again asks whether what is sent again are just the bytes that are not claimed, each once, with Check at the end alone.
func again(t *testing.T, a answer) {
	t.Helper()
	sent := make([]int, len(a.s.Block))
	last := -1
	for i, x := range a.sent {
		if x.Kind != 1 {
			continue
		}
		if last >= 0 && a.sent[last].Check {
			t.Fatalf("a segment behind the checkpoint: %+v", a.sent)
		}
		last = i
		for j, b := range x.Data {
			sent[x.Offset+j]++
			if b != a.s.Block[x.Offset+j] {
				t.Fatalf("another byte at %d", x.Offset+j)
			}
		}
	}
	if last < 0 {
		return
	}
	for i, got := range claimed(a.s) {
		if got != (sent[i] == 0) || sent[i] > 1 {
			t.Fatalf("the byte %d is claimed: %v, and sent %d times", i, got, sent[i])
		}
	}
	if !a.sent[last].Check || !segment.Same(a.sent[last], a.s.Last) {
		t.Fatalf("the last one is %+v, Last %+v", a.sent[last], a.s.Last)
	}
}

// tick lets a moment go by: the session asks, and some of what is on its way comes in.
func (k *talk) tick() {
	k.now++
	a := of(sender.Tick(k.s, k.now))
	wants(k.t, fmt.Sprint("Tick at ", k.now), a, toldTick(k.s, k.now))
	sound(k.t, a)
	if len(a.sent) > 1 || len(a.sent) == 1 && !segment.Same(a.sent[0], k.s.Last) && a.sent[0].Kind != 4 {
		k.t.Fatalf("Tick sends %+v", a.sent)
	}
	k.s = a.s
	k.there = k.travels(k.there, a.sent)
	for n := k.d.IntN(6); n > 0 && len(k.there) > 0; n-- {
		x := k.there[0]
		k.there = k.there[1:]
		k.back = k.travels(k.back, k.r.take(x))
	}
	for n := k.d.IntN(3); n > 0 && len(k.back) > 0; n-- {
		x := k.back[0]
		k.back = k.back[1:]
		k.heard(x)
	}
}

// talks begins a talk.
func talks(t *testing.T, d dice, x api.Start, loss int) *talk {
	t.Helper()
	a := of(sender.New(x, 0))
	wants(t, "New", a, toldNew(x, 0))
	sound(t, a)
	again(t, a)
	k := &talk{t: t, d: d, s: a.s, r: takes(a.s), loss: loss}
	k.there = k.travels(nil, a.sent)
	return k
}

// P14.5: whole talks with segments lost, doubled and overtaken: a session that is done has all of its block there.
func TestTalks(t *testing.T) {
	d := chance(6)
	done, lost := 0, 0
	for i := range 500 {
		x := d.start()
		k := talks(t, d, x, []int{0, 20, 50, 90}[i%4])
		for range 1500 {
			if k.s.State%2 == 0 {
				break
			}
			k.tick()
		}
		switch k.s.State {
		case 2:
			done++
			if !k.r.whole(x.Block) {
				t.Fatalf("%+v is done, but has come in as %+v", k.s, k.r)
			}
		case 4:
			lost++
			if k.s.Reason != 1 {
				t.Fatalf("given up for %d", k.s.Reason)
			}
		default:
			t.Fatalf("%+v goes on", k.s)
		}
	}
	if done < 200 || lost < 30 {
		t.Errorf("%d done, %d given up", done, lost)
	}
}

// P14.5: a taker that falls now and then has nothing any more; what it claims then is less, and it has the block at the end.
func TestTalksWithATakerThatFalls(t *testing.T) {
	d := chance(7)
	less := 0
	for range 300 {
		x := d.start()
		x.Wait, x.Tries = 20, 16
		k := talks(t, d, x, 0)
		k.there = k.there[:len(k.there)-1] // the checkpoint is lost
		for n := 1 + d.IntN(60); k.s.State == 1; n-- {
			if n > 0 && n%20 == 0 && len(k.back) == 0 {
				k.r.falls()
				less++
			}
			k.tick()
		}
		if k.s.State != 2 || !k.r.whole(x.Block) {
			t.Fatalf("%+v: %+v", k.s, k.r)
		}
	}
	if less < 100 {
		t.Errorf("%d times it fell", less)
	}
}

// P14.5: behind whatever was lost: when nothing is lost any more, a session that is open is done, and its block is there.
func TestTalksThatGoWellAtLast(t *testing.T) {
	d := chance(8)
	open := 0
	for range 300 {
		x := d.start()
		x.Tries = 16
		k := talks(t, d, x, 60)
		for range d.IntN(60) {
			k.tick()
		}
		if k.s.State != 1 {
			continue
		}
		open++
		k.there, k.back, k.loss = nil, nil, 0
		for range 2000 {
			if k.s.State == 2 {
				break
			}
			k.tick()
		}
		if k.s.State != 2 || !k.r.whole(x.Block) {
			t.Fatalf("%+v: %+v", k.s, k.r)
		}
	}
	if open < 100 {
		t.Errorf("%d were open", open)
	}
}

// P14.5: who takes in all that is sent has the block, whatever the reports say, true or not.
func TestAllThatIsSentIsTheBlock(t *testing.T) {
	d := chance(9)
	for range 300 {
		x := d.start()
		a := of(sender.New(x, 0))
		r := takes(a.s)
		count := make([]int, len(x.Block))
		for _, y := range a.sent {
			r.take(y)
			for i := range y.Data {
				count[y.Offset+i]++
			}
		}
		for i, n := range count {
			if n != 1 {
				t.Fatalf("New sends the byte %d %d times", i, n)
			}
		}
		if !r.whole(x.Block) {
			t.Fatalf("New sends %+v", a.sent)
		}
		for now := range 20 {
			a = of(sender.Take(a.s, d.back(a.s), now))
			sound(t, a)
			again(t, a)
			for _, y := range a.sent {
				r.take(y)
			}
			if !r.whole(x.Block) {
				t.Fatalf("it sends %+v", a.sent)
			}
		}
	}
}

// P14.5: a report that claims all has each open session done, whichever checkpoint it is of.
func TestAReportOfAllEndsASession(t *testing.T) {
	d := chance(10)
	for range 1000 {
		s := d.sending()
		s.State, s.Seen = 1, nil
		for _, n := range []int{len(s.Block), 512} {
			a := of(sender.Take(s, report(s, d.serial(), d.serial(), rows(0, n)...), 3))
			sound(t, a)
			if a.s.State != 2 || len(sender.Gaps(a.s)) != 0 || len(a.sent) != 1 {
				t.Fatalf("%+v", a)
			}
		}
	}
}

// alone lets a session go on without an answer, step moments at a time, and counts what it sends.
func alone(t *testing.T, s api.Sending, now, step int) (asks, cancels, moments int) {
	t.Helper()
	for ; s.State == 1 || s.State == 3; now += step {
		a := of(sender.Tick(s, now))
		sound(t, a)
		for _, x := range a.sent {
			switch {
			case x.Kind == 4 && x.Reason == 1:
				cancels++
			case cancels == 0 && segment.Same(x, s.Last):
				asks++
			default:
				t.Fatalf("it sends %+v", x)
			}
		}
		s, moments = a.s, now
	}
	if s.State != 4 || s.Reason != 1 {
		t.Fatalf("State %d, Reason %d", s.State, s.Reason)
	}
	return asks, cancels, moments
}

// P14.5: a session that has no answer asks Tries times, and says so often and once more that it gives up: at most twice Tries and two.
func TestSegmentsWithoutAnAnswer(t *testing.T) {
	for tries := 1; tries <= 16; tries++ {
		for _, wait := range []int{1, 2, 10, 4096} {
			x := starts(250)
			x.Wait, x.Tries = wait, tries
			first := of(sender.New(x, 7))
			later := of(sender.Take(first.s, report(first.s, 3, 1, rows(5, 100)...), 9))
			for i, s := range []api.Sending{first.s, later.s} {
				begin := 7 + 2*i
				for _, step := range []int{max(1, wait/64), wait, 3 * wait, 3*wait + 1} {
					asks, cancels, at := alone(t, s, begin, step)
					if asks != tries || cancels != tries+1 || asks+cancels > 2*tries+2 {
						t.Errorf("Wait %d, Tries %d: it asks %d times, says %d times that it gives up", wait, tries, asks, cancels)
					}
					if step <= wait && at != begin+wait*(2*tries+2) {
						t.Errorf("Wait %d, Tries %d: it is over at %d", wait, tries, at)
					}
				}
			}
		}
	}
}

// P14.5: long rows of calls, whatever they are: what is answered may be, is what is told once more, and a call that is refused tells nothing.
func TestLongRows(t *testing.T) {
	d := chance(11)
	for range 150 {
		a := of(sender.New(d.start(), d.IntN(5)))
		sound(t, a)
		s := a.s
		for now := range 60 {
			if d.IntN(4) == 0 {
				now = maxTick - d.IntN(4)
			}
			var want answer
			switch d.IntN(20) {
			case 0:
				a, want = of(sender.Cancel(s, now)), toldCancel(s, now)
			case 1, 2, 3, 4:
				a, want = of(sender.Tick(s, now)), toldTick(s, now)
			case 5:
				x := forwards(s)[d.IntN(8)]
				a, want = of(sender.Take(s, x, now)), answer{e: api.ErrArg}
			default:
				x := d.back(s)
				if x.Kind == 6 && d.IntN(4) > 0 {
					continue
				}
				a, want = of(sender.Take(s, x, now)), toldTake(s, x, now)
			}
			wants(t, "a long row", a, want)
			if a.e != api.OK {
				continue
			}
			sound(t, a)
			s = a.s
		}
	}
}
