package receiver_test

import (
	"bytes"
	"fmt"
	"slices"
	"testing"

	"heliograph/api"
	"heliograph/receiver"
	"heliograph/sender"
)

// course is a session that takes in, with what it was handed so far.
type course struct {
	t     *testing.T
	a     answer
	has   []bool
	begun bool
}

// take hands it a data segment of the block that fill makes, and asks for what P15.5 says of it.
func (k *course) take(x api.Segment, now int) {
	k.t.Helper()
	if k.begun {
		k.a = of(receiver.Take(k.a.s, x, now))
	} else {
		k.a, k.begun, k.has = of(receiver.New(x, now, 1000)), true, make([]bool, x.Total)
	}
	right(k.t, k.a)
	for i := range x.Data {
		k.has[x.Offset+i] = true
	}
	k.claims()
	missing := 0
	for _, got := range k.has {
		if !got {
			missing++
		}
	}
	b, e := receiver.Block(k.a.s)
	switch {
	case receiver.Missing(k.a.s) != missing:
		k.t.Fatalf("%d are missing, Missing is %d", missing, receiver.Missing(k.a.s))
	case missing == 0 && (e != api.OK || !bytes.Equal(b, fill(x.Total)) || k.a.s.State != api.SessionDone):
		k.t.Fatalf("all came in, but there is %+v", k.a.s)
	case missing > 0 && (e != api.ErrNone || len(b) != 0 || k.a.s.State != api.SessionOpen):
		k.t.Fatalf("%d bytes are missing, but there is %+v", missing, k.a.s)
	case len(k.a.sent) == 1 != x.Check || len(k.a.sent) > 1:
		k.t.Fatalf("Check %v, sent %+v", x.Check, k.a.sent)
	}
}

// claims asks whether all that is claimed has come in, and is all, if there is room for it.
func (k *course) claims() {
	k.t.Helper()
	for _, x := range k.a.sent {
		all := runs(k.has, true)
		if x.Kind != api.SegReport || text(x.Claims) != text(all[:min(20, len(all))]) {
			k.t.Fatalf("%v came in, it sends %+v", all, x)
		}
	}
}

// P15.5: all orders of the segments of a block, each with one of them doubled.
func TestEachOrder(t *testing.T) {
	s := api.Taking{Source: 1, Session: 5, Total: 450}
	pieces := []api.Segment{data(s, 0, 100, 0), data(s, 100, 100, 4), data(s, 200, 100, 0), data(s, 300, 100, 2), data(s, 400, 50, 1)}
	n := 0
	var order func(chosen []int)
	order = func(chosen []int) {
		if len(chosen) < len(pieces) {
			for i := range pieces {
				if !slices.Contains(chosen, i) {
					order(append(slices.Clone(chosen), i))
				}
			}
			return
		}
		n++
		for double := range pieces {
			k := course{t: t}
			for j, i := range chosen {
				k.take(pieces[i], j)
				k.take(pieces[chosen[min(j, double)]], j)
			}
		}
	}
	order(nil)
	if n != 120 {
		t.Errorf("%d orders", n)
	}
}

// P15.5: whatever pieces there are, lapping over one another, in whatever order, however often.
func TestWhateverPieces(t *testing.T) {
	d := chance(6)
	for range 400 {
		s := api.Taking{Source: 1 + d.IntN(6), Session: d.serial(), Total: 1 + d.IntN(512)}
		wide := 1 + d.IntN(min(100, s.Total))
		k := course{t: t}
		for i := 0; i < 2000 && (i == 0 || k.a.s.State == 1 || d.IntN(5) > 0); i++ {
			n := 1 + d.IntN(wide)
			k.take(data(s, d.IntN(s.Total-n+1), n, uint32(d.IntN(2))*d.serial()), i)
		}
		for at := 0; at < s.Total; at += wide {
			k.take(data(s, at, min(wide, s.Total-at), 0), maxTick)
		}
		if k.a.s.State != api.SessionDone {
			t.Fatalf("%+v", k.a.s)
		}
	}
}

// P15.5: a block that comes byte by byte, each second one first: more rows than a report has room for.
func TestByteByByte(t *testing.T) {
	for _, total := range []int{1, 2, 39, 40, 41, 42, 43, 512} {
		s := api.Taking{Source: 1, Session: 5, Total: total}
		k := course{t: t}
		for first := range 2 {
			for at := first; at < total; at += 2 {
				k.take(data(s, at, 1, uint32(at)+1), at)
			}
		}
		if k.a.s.State != api.SessionDone || k.a.s.Serial != uint32(total) {
			t.Errorf("%+v", k.a.s)
		}
	}
}

// P15.5: a session that is over says nothing but SegCancelAck to SegCancel, however it came to be so, and stays over.
func TestWhatIsOverIsStill(t *testing.T) {
	d := chance(7)
	u := unlike()
	another := data(u, 10, 1, 0)
	another.Data[0]++
	ways := []api.Taking{of(receiver.Tick(u, 6000)).s, of(receiver.Take(u, cancel(u, 1), 1)).s, of(receiver.Take(u, another, 1)).s, of(receiver.Take(in(u, 2), another, 1)).s, of(receiver.Tick(in(u, 2), 6000)).s}
	for range 300 {
		s := d.taking()
		s.State = 4
		ways = append(ways, s)
	}
	for i, s := range ways {
		if s.State != api.SessionOver {
			t.Fatalf("the way %d: State %d", i, s.State)
		}
		for range 40 {
			now := d.IntN(maxTick + 1)
			if a := of(receiver.Tick(s, now)); a.e != api.OK || len(a.sent) != 0 || !receiver.Same(a.s, s) {
				t.Fatalf("Tick: %+v", a)
			}
			x := d.there(s)
			a := of(receiver.Take(s, x, now))
			right(t, a)
			want := answer{s: changed(s, func(s *api.Taking) { s.Due = now + s.Life })}
			if x.Kind == api.SegCancel {
				want.sent = []api.Segment{bare(s, api.SegCancelAck)}
			}
			wants(t, text(x), a, want)
			s = a.s
		}
	}
}

// P15.5: long rows of calls, whatever they are: what is answered may be, is what is told once more, and a call that is refused tells nothing.
func TestLongRows(t *testing.T) {
	d := chance(8)
	for range 300 {
		first := d.taking()
		x := data(first, 0, min(first.Total, 1+d.IntN(100)), d.serial())
		a := of(receiver.New(x, d.IntN(5), 1+d.IntN(30)))
		right(t, a)
		s := a.s
		for now := range 80 {
			if d.IntN(9) == 0 {
				now = maxTick - d.IntN(4)
			}
			var want answer
			switch d.IntN(20) {
			case 0, 1, 2:
				a, want = of(receiver.Tick(s, now)), toldTick(s, now)
			case 3:
				a, want = of(receiver.Take(s, backs(s)[d.IntN(5)], now)), answer{e: api.ErrArg}
			case 4:
				x = d.there(s)
				a, want = of(receiver.Take(s, x, now)), toldTake(s, x, now)
			default:
				n := 1 + d.IntN(min(100, s.Total))
				x = data(s, d.IntN(s.Total-n+1), n, uint32(d.IntN(2))*d.serial())
				a, want = of(receiver.Take(s, x, now)), toldTake(s, x, now)
			}
			wants(t, "a long row", a, want)
			if a.e != api.OK {
				continue
			}
			right(t, a)
			s = a.s
		}
	}
}

// talk is a session that sends, the one that takes it in, and what is on its way; loss is how many of a hundred are lost.
type talk struct {
	t           *testing.T
	d           dice
	s           api.Sending
	r           api.Taking
	begun       bool
	life, loss  int
	now         int
	there, back []api.Segment
}

// travels is what is on its way behind segments: some are lost, some doubled, some overtaken.
func (k *talk) travels(way, l []api.Segment) []api.Segment {
	for _, x := range l {
		for range 1 + k.d.IntN(100)/85 {
			if k.d.IntN(100) < k.loss {
				continue
			}
			way = append(way, x)
			if i := k.d.IntN(len(way)); k.loss > 0 {
				way[i], way[len(way)-1] = way[len(way)-1], way[i]
			}
		}
	}
	return way
}

// arrives hands the one who takes in what has come to it; the first data segment begins it.
func (k *talk) arrives(x api.Segment) {
	var a answer
	switch {
	case k.begun:
		a = of(receiver.Take(k.r, x, k.now))
	case x.Kind == api.SegData:
		a = of(receiver.New(x, k.now, k.life))
	default:
		return
	}
	right(k.t, a)
	k.r, k.begun = a.s, true
	k.back = k.travels(k.back, a.sent)
}

// tick lets a moment go by for both, and some of what is on its way come in.
func (k *talk) tick() {
	k.now++
	s, sent, e := sender.Tick(k.s, k.now)
	if e != api.OK {
		k.t.Fatal(e)
	}
	k.s = s
	k.there = k.travels(k.there, sent)
	if k.begun {
		a := of(receiver.Tick(k.r, k.now))
		right(k.t, a)
		k.r = a.s
		k.back = k.travels(k.back, a.sent)
	}
	for n := k.d.IntN(6); n > 0 && len(k.there) > 0; n-- {
		x := k.there[0]
		k.there = k.there[1:]
		k.arrives(x)
	}
	for n := k.d.IntN(3); n > 0 && len(k.back) > 0; n-- {
		x := k.back[0]
		k.back = k.back[1:]
		if k.s, sent, e = sender.Take(k.s, x, k.now); e != api.OK {
			k.t.Fatal(e)
		}
		k.there = k.travels(k.there, sent)
	}
}

// talks lets a session that sends run to its end.
func talks(t *testing.T, d dice, life, loss int) *talk {
	t.Helper()
	x := api.Start{Source: 1 + d.IntN(6), Session: d.serial(), Block: fill(1 + d.IntN(512)), Wait: 5 + d.IntN(30), Tries: 1 + d.IntN(16)}
	s, sent, e := sender.New(x, 0)
	if e != api.OK {
		t.Fatal(e)
	}
	k := &talk{t: t, d: d, s: s, life: life, loss: loss}
	k.there = k.travels(nil, sent)
	for range 2000 {
		if k.s.State%2 == 0 {
			return k
		}
		k.tick()
	}
	t.Fatalf("%+v goes on", k.s)
	return nil
}

// P15.5: whole talks with a session of layer 14, with segments lost, doubled and overtaken: what is told there to have come in has come in here.
func TestTalks(t *testing.T) {
	d := chance(9)
	done, lost := 0, 0
	for i := range 600 {
		k := talks(t, d, 65536, []int{0, 20, 50, 90}[i%4])
		if k.s.State == api.SessionDone {
			done++
			if b, e := receiver.Block(k.r); e != api.OK || !bytes.Equal(b, k.s.Block) || k.r.State != api.SessionDone {
				t.Fatalf("%+v is done, but has come in as %+v", k.s, k.r)
			}
			continue
		}
		lost++
		if i%4 == 0 || k.r.State == api.SessionDone && !bytes.Equal(k.r.Bytes, k.s.Block) {
			t.Fatalf("%+v: %+v", k.s, k.r)
		}
	}
	if done < 200 || lost < 30 {
		t.Errorf("%d done, %d given up", done, lost)
	}
}

// P15.5: with a short Life: who takes in stops, and the sender hears of it; what has come in till then is still right.
func TestTalksWithAShortLife(t *testing.T) {
	d := chance(10)
	stopped, whole := 0, 0
	for range 400 {
		k := talks(t, d, 1+d.IntN(12), 30)
		if k.s.State == api.SessionOver && k.s.Reason == api.ReasonStop {
			stopped++
		}
		if !k.begun {
			continue
		}
		for i, got := range come(k.r) {
			if got && k.r.Bytes[i] != k.s.Block[i] || !got && k.r.Bytes[i] != 0 {
				t.Fatalf("%+v", k.r)
			}
		}
		b, e := receiver.Block(k.r)
		if e == api.OK {
			whole++
		}
		if e == api.OK != bytes.Equal(b, k.s.Block) || k.s.State == api.SessionDone && e != api.OK {
			t.Fatalf("%s", fmt.Sprint(k.s, k.r, e))
		}
	}
	if stopped < 50 || whole < 100 {
		t.Errorf("%d stopped, %d are whole", stopped, whole)
	}
}
