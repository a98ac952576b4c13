package sender_test

import (
	"fmt"
	"math"
	"testing"

	"heliograph/api"
	"heliograph/sender"
)

// P14.1: the chapter's example, each field of it.
func TestNewOfTheExample(t *testing.T) {
	x := starts(250)
	b := fill(250)
	first := api.Segment{Kind: 1, Source: 1, Session: 5, Offset: 0, Total: 250, Data: b[:100]}
	second := api.Segment{Kind: 1, Source: 1, Session: 5, Offset: 100, Total: 250, Data: b[100:200]}
	third := api.Segment{Kind: 1, Source: 1, Session: 5, Offset: 200, Total: 250, Data: b[200:], Check: true, Serial: 1}
	want := answer{s: api.Sending{Start: x, State: 1, Last: third, Due: 10}, sent: []api.Segment{first, second, third}}
	wants(t, "New", of(sender.New(x, 0)), want)
}

// P14.1: how many bytes each segment has, by the length of the block; the last one alone has Check.
func TestNewOfEachLength(t *testing.T) {
	for n, sizes := range map[int][]int{
		1: {1}, 2: {2}, 99: {99}, 100: {100}, 101: {100, 1}, 199: {100, 99}, 200: {100, 100}, 201: {100, 100, 1},
		300: {100, 100, 100}, 500: {100, 100, 100, 100, 100}, 501: {100, 100, 100, 100, 100, 1}, 511: {100, 100, 100, 100, 100, 11}, 512: {100, 100, 100, 100, 100, 12},
	} {
		a := of(sender.New(starts(n), 7))
		var got []int
		for i, x := range a.sent {
			got = append(got, len(x.Data))
			last := i == len(a.sent)-1
			if x.Offset != 100*i || x.Check != last || last && x.Serial != 1 {
				t.Errorf("a block of %d: the segment %d: %+v", n, i, x)
			}
		}
		if text(got) != text(sizes) {
			t.Errorf("a block of %d: segments of %v bytes, want %v", n, got, sizes)
		}
		wants(t, fmt.Sprint("a block of ", n), a, toldNew(starts(n), 7))
	}
	for n := 1; n <= 512; n++ {
		wants(t, fmt.Sprint("a block of ", n), of(sender.New(starts(n), 3)), toldNew(starts(n), 3))
	}
}

// P14.1: the edges of all fields that may be.
func TestNewAtTheEdges(t *testing.T) {
	for _, source := range []int{1, 2, 6} {
		for _, session := range []uint32{1, 2, 1 << 31, math.MaxUint32} {
			for _, wait := range []int{1, 4096} {
				for _, tries := range []int{1, 16} {
					for _, now := range []int{0, 1, maxTick - 1, maxTick} {
						x := api.Start{Source: source, Session: session, Block: fill(101), Wait: wait, Tries: tries}
						a := of(sender.New(x, now))
						wants(t, fmt.Sprint(source, session, wait, tries, now), a, toldNew(x, now))
						if a.e != api.OK || a.s.Due != now+wait || a.s.Asked != 0 || a.s.State != api.SessionOpen || len(a.s.Got) != 0 || len(a.s.Seen) != 0 {
							t.Errorf("%+v at %d: %+v", x, now, a)
						}
					}
				}
			}
		}
	}
}

// P14.1, R2: each start that may not be, and each number that is no moment.
func TestNewRefuses(t *testing.T) {
	for what, x := range wrongStarts() {
		for _, now := range []int{0, 5, -1, maxTick + 1} {
			refuses(t, what, of(sender.New(x, now)), api.ErrArg)
		}
	}
	for _, now := range wrongMoments() {
		refuses(t, fmt.Sprint("at ", now), of(sender.New(starts(250), now)), api.ErrArg)
	}
	refuses(t, "zero", of(sender.New(api.Start{}, 0)), api.ErrArg)
}

// P14.1: many starts, held against what is told once more.
func TestNewHeld(t *testing.T) {
	d := chance(1)
	for range 2000 {
		x, now := d.start(), d.IntN(maxTick+1)
		wants(t, text(x), of(sender.New(x, now)), toldNew(x, now))
	}
}
