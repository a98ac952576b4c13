package plan_test

import (
	"fmt"
	"math"
	"slices"
	"testing"

	"heliograph/api"
	"heliograph/plan"
)

// P13.3: the chapter's examples.
func TestRouteExamples(t *testing.T) {
	p := example()
	all := plan.Volumes(p)
	leads(t, "the example", p, all, 1, 3, 0, 10, 0, 21)
	leads(t, "the example", p, all, 1, 3, 10, 10, 2, 26)
	refuses(t, "the example", p, all, 1, 3, 10, 11, api.ErrNone)
	refuses(t, "the example", p, all, 1, 3, 26, 10, api.ErrNone)
	refuses(t, "the example", p, all, 1, 3, 26, 11, api.ErrNone)
}

// P13.3: by one contact: one waits for its Start, goes at each of its moments, and not at End.
func TestRouteByOneContact(t *testing.T) {
	for _, r := range [][3]int{{0, 1, 0}, {0, 10, 2}, {20, 30, 0}, {25, 26, 7}, {5, 9, 4096}, {0, 1 << 20, 1}, {1<<20 - 1, 1 << 20, 4096}} {
		start, end, delay := r[0], r[1], r[2]
		p := of(2, con(1, 2, start, end, delay))
		for _, now := range []int{0, 1, start - 1, start, start + 1, end - 1, end, end + 1, end + delay, 1<<20 - 1, 1 << 20} {
			switch {
			case now < 0 || now > 1<<20:
				refuses(t, fmt.Sprint(r), p, []int{5}, 1, 2, now, 5, api.ErrArg)
			case now >= end:
				refuses(t, fmt.Sprint(r), p, []int{5}, 1, 2, now, 5, api.ErrNone)
			case now < start:
				leads(t, fmt.Sprint(r), p, []int{5}, 1, 2, now, 5, 0, start+delay+1)
			default:
				leads(t, fmt.Sprint(r), p, []int{5}, 1, 2, now, 5, 0, now+delay+1)
			}
			if now >= 0 && now <= 1<<20 {
				refuses(t, "the other way", p, []int{5}, 2, 1, now, 5, api.ErrNone)
			}
		}
	}
	refuses(t, "no contacts", of(2), nil, 1, 2, 0, 0, api.ErrNone)
	refuses(t, "no contacts, an empty list", of(2), []int{}, 1, 2, 0, 0, api.ErrNone)
}

// P13.3: the last moment of all; one may arrive behind MaxTick, but goes nowhere from there.
func TestRouteAtTheLastMoment(t *testing.T) {
	last := 1<<20 - 1
	p := of(3, con(1, 2, last, last+1, 4096), con(2, 3, last, last+1, 0))
	leads(t, "the last moment", p, much(p), 1, 2, last, 1, 0, last+4097)
	leads(t, "the last moment", p, much(p), 2, 3, 0, 1, 1, last+1)
	refuses(t, "behind it", p, much(p), 1, 3, 0, 1, api.ErrNone)
	refuses(t, "MaxTick", p, much(p), 1, 2, 1<<20, 1, api.ErrNone)
}

// P13.3: just what is left is enough, one more is not; need and what is left of 0, and as great as an int can be.
func TestRouteByWhatIsLeft(t *testing.T) {
	p := of(2, con(1, 2, 0, 10, 0))
	for _, left := range []int{0, 1, 2, 999, 1000, 1001, 1 << 32, math.MaxInt - 1, math.MaxInt} {
		for _, need := range []int{0, 1, 2, 998, 999, 1000, 1001, 1 << 32, math.MaxInt - 1, math.MaxInt} {
			if need <= left {
				leads(t, "enough", p, []int{left}, 1, 2, 3, need, 0, 4)
			} else {
				refuses(t, "too little", p, []int{left}, 1, 2, 3, need, api.ErrNone)
			}
		}
	}
}

// P13.3: each contact of a way must have enough; one that is open but has too little left is gone round.
func TestRouteRoundAContactWithoutRoom(t *testing.T) {
	p := of(4, con(1, 2, 0, 10, 0), con(1, 3, 0, 10, 0), con(2, 4, 0, 10, 0), con(3, 4, 0, 10, 5), con(1, 4, 0, 10, 9))
	leads(t, "all have enough", p, []int{5, 5, 5, 5, 5}, 1, 4, 0, 5, 0, 2)
	leads(t, "the first has too little", p, []int{4, 5, 5, 5, 5}, 1, 4, 0, 5, 1, 7)
	leads(t, "the one behind it has too little", p, []int{5, 5, 4, 5, 5}, 1, 4, 0, 5, 1, 7)
	leads(t, "both ways have too little", p, []int{5, 5, 4, 4, 5}, 1, 4, 0, 5, 4, 10)
	leads(t, "both ways have nothing", p, []int{0, 0, 9, 9, 5}, 1, 4, 0, 5, 4, 10)
	refuses(t, "none has enough", p, []int{4, 4, 9, 9, 4}, 1, 4, 0, 5, api.ErrNone)
	refuses(t, "none has enough at the end", p, []int{9, 9, 4, 4, 4}, 1, 4, 0, 5, api.ErrNone)
	later := of(2, con(1, 2, 0, 10, 0), con(1, 2, 10, 20, 0))
	leads(t, "a later one of the pair", later, []int{4, 5}, 1, 2, 0, 5, 1, 11)
	leads(t, "a later one of the pair", later, []int{5, 5}, 1, 2, 0, 5, 0, 1)
	leads(t, "a later one of the pair", later, []int{5, 5}, 1, 2, 9, 5, 0, 10)
	leads(t, "a later one of the pair", later, []int{5, 5}, 1, 2, 10, 5, 1, 11)
}

// P13.3: a way by all nodes; at each one on it a contact just still has the moment of arrival, or has not.
func TestRouteByAllNodes(t *testing.T) {
	p := of(6, con(5, 6, 0, 25, 4), con(3, 4, 9, 40, 3), con(1, 2, 5, 6, 1), con(4, 5, 0, 14, 6), con(2, 3, 0, 8, 0))
	// 1 at 0, waits till 5; 2 at 7; 3 at 8, waits till 9; 4 at 13; 5 at 20; 6 at 25
	for to, at := range map[int]int{2: 7, 3: 8, 4: 13, 5: 20, 6: 25} {
		for now := range 6 {
			leads(t, "by all nodes", p, much(p), 1, to, now, 1, 2, at)
		}
		refuses(t, "by all nodes", p, much(p), 1, to, 6, 1, api.ErrNone)
		refuses(t, "back", p, much(p), to, 1, 0, 1, api.ErrNone)
	}
	for place, at := range map[int]int{4: 7, 3: 13, 0: 20} {
		q := of(6, slices.Clone(p.Contacts)...)
		q.Contacts[place].End = at
		refuses(t, fmt.Sprint("the contact ", place, " ends at the moment of arrival"), q, much(q), 1, 6, 0, 1, api.ErrNone)
		q.Contacts[place].End = at + 1
		leads(t, fmt.Sprint("the contact ", place, " ends one later"), q, much(q), 1, 6, 0, 1, 2, 25)
	}
}

// P13.3: a contact that starts later, or goes by more nodes, may arrive earlier.
func TestRouteOfALaterStart(t *testing.T) {
	p := of(3, con(1, 3, 0, 10, 50), con(1, 3, 10, 12, 3), con(1, 2, 20, 21, 0), con(2, 3, 0, 30, 0))
	leads(t, "a later start", p, much(p), 1, 3, 0, 1, 1, 14)
	leads(t, "a later start", p, much(p), 1, 3, 11, 1, 1, 15)
	leads(t, "a later start by another node", p, much(p), 1, 3, 12, 1, 2, 22)
	leads(t, "without the second", p, []int{9, 0, 9, 9}, 1, 3, 0, 1, 2, 22)
	leads(t, "without the second and the third", p, []int{9, 0, 0, 9}, 1, 3, 0, 1, 0, 51)
	q := of(4, con(1, 2, 0, 5, 40), con(1, 2, 5, 9, 0), con(2, 3, 0, 90, 0), con(1, 4, 0, 1, 0), con(4, 3, 0, 90, 9))
	leads(t, "to a node on the way", q, much(q), 1, 3, 0, 1, 1, 7)
	leads(t, "to a node on the way", q, []int{9, 0, 9, 9, 9}, 1, 3, 0, 1, 3, 11)
}

// P13.3: of several ways that arrive at the same moment, the least place of the first contact: the long one's or the short one's.
func TestRouteOfSeveralWays(t *testing.T) {
	direct, there, on := con(1, 3, 1, 9, 0), con(1, 2, 0, 9, 0), con(2, 3, 0, 9, 0)
	p := of(3, direct, there, on)
	leads(t, "the short one first", p, much(p), 1, 3, 0, 1, 0, 2)
	p = of(3, there, direct, on)
	leads(t, "the long one first", p, much(p), 1, 3, 0, 1, 0, 2)
	p = of(3, on, there, direct)
	leads(t, "the long one first, its end ahead of it", p, much(p), 1, 3, 0, 1, 1, 2)
	p = of(3, on, direct, there)
	leads(t, "the short one first, behind the long one's end", p, much(p), 1, 3, 0, 1, 1, 2)
	p = of(3, there, direct, on)
	leads(t, "the long one is too late", p, much(p), 1, 3, 1, 1, 1, 2)
}

// P13.3: where a way waits for a Start at the end, one may get to the node ahead of it later than need be: the least place still counts.
func TestRouteOfWaysThatWait(t *testing.T) {
	p := of(3, con(1, 2, 2, 9, 4), con(1, 2, 0, 2, 0), con(2, 3, 20, 21, 0))
	leads(t, "the slow one first", p, much(p), 1, 3, 0, 1, 0, 21)
	p = of(3, con(1, 2, 0, 2, 0), con(1, 2, 2, 9, 4), con(2, 3, 20, 21, 0))
	leads(t, "the quick one first", p, much(p), 1, 3, 0, 1, 0, 21)
	p = of(4, con(1, 4, 0, 1, 0), con(4, 2, 9, 10, 8), con(1, 2, 0, 1, 0), con(2, 3, 20, 21, 0))
	leads(t, "the long slow one first", p, much(p), 1, 3, 0, 1, 0, 21)
	p.Contacts[1].Delay = 10
	leads(t, "the long slow one just in time", p, much(p), 1, 3, 0, 1, 0, 21)
	p.Contacts[1].Delay = 11
	leads(t, "the long slow one too late", p, much(p), 1, 3, 0, 1, 2, 21)
	p = of(2, con(1, 2, 5, 9, 4), con(1, 2, 0, 5, 9))
	leads(t, "two of one pair", p, much(p), 1, 2, 0, 1, 0, 10)
}

// P13.3: a way is any contacts one behind the other: one that comes back to where it began is one, too.
func TestRouteOfWaysThatComeBack(t *testing.T) {
	p := of(3, con(1, 2, 0, 5, 0), con(2, 1, 0, 5, 0), con(1, 3, 9, 10, 0))
	leads(t, "there and back first", p, much(p), 1, 3, 0, 1, 0, 10)
	leads(t, "there, and still back", p, much(p), 1, 3, 3, 1, 0, 10)
	leads(t, "there, and no more back", p, much(p), 1, 3, 4, 1, 2, 10)
	p = of(3, con(1, 3, 9, 10, 0), con(1, 2, 0, 5, 0), con(2, 1, 0, 5, 0))
	leads(t, "there and back behind", p, much(p), 1, 3, 0, 1, 0, 10)
	p = of(3, con(1, 2, 0, 5, 0), con(2, 1, 0, 5, 0), con(1, 3, 0, 10, 0))
	leads(t, "there and back is later", p, much(p), 1, 3, 0, 1, 2, 1)
}

// P13.3: from a plan's nodes to others of it: all others are wrong, whether contacts say anything of them or not.
func TestRouteOfNodes(t *testing.T) {
	for nodes := 2; nodes <= 6; nodes++ {
		p := of(nodes, con(1, 2, 0, 9, 0), con(2, 1, 0, 9, 0))
		ends := append(far(), -1, 0, 7, 8)
		for i := range nodes + 1 {
			ends = append(ends, i+1)
		}
		for _, from := range ends {
			for _, to := range ends {
				switch {
				case from == to || from < 1 || from > nodes || to < 1 || to > nodes:
					refuses(t, "no nodes", p, []int{9, 9}, from, to, 0, 1, api.ErrArg)
				case from == 1 && to == 2:
					leads(t, "nodes", p, []int{9, 9}, from, to, 0, 1, 0, 1)
				case from == 2 && to == 1:
					leads(t, "nodes", p, []int{9, 9}, from, to, 0, 1, 1, 1)
				default:
					refuses(t, "nodes without contacts", p, []int{9, 9}, from, to, 0, 1, api.ErrNone)
				}
			}
		}
	}
}

// P13.3: left, need and now that are wrong, each by itself, with a way and without one.
func TestRouteOfWrongNumbers(t *testing.T) {
	for _, to := range []int{2, 3} {
		p := of(4, con(1, 2, 0, 9, 0), con(2, 4, 0, 9, 0))
		for _, left := range [][]int{nil, {}, {9}, {9, 9, 9}, {9, 9, -1}, {9, 9, 0}, make([]int, 24), {-1, 9}, {9, -1}, {-1, -1}, {math.MinInt, 9}, {9, math.MinInt}, {9, -1 << 32}} {
			refuses(t, "left", p, left, 1, to, 0, 0, api.ErrArg)
			refuses(t, "left, and nothing open", p, left, 1, to, 100, 0, api.ErrArg)
		}
		for _, n := range []int{-1, -2, -100, -1 << 32, math.MinInt + 1, math.MinInt} {
			refuses(t, "need", p, []int{9, 9}, 1, to, 0, n, api.ErrArg)
			refuses(t, "now", p, []int{9, 9}, 1, to, n, 0, api.ErrArg)
		}
		for _, now := range []int{1<<20 + 1, 1<<20 + 2, 1 << 21, 1 << 32, math.MaxInt - 4097, math.MaxInt - 1, math.MaxInt} {
			refuses(t, "now", p, []int{9, 9}, 1, to, now, 0, api.ErrArg)
		}
		refuses(t, "MaxTick", p, []int{9, 9}, 1, to, 1<<20, 0, api.ErrNone)
	}
	refuses(t, "no contacts, a number left", of(2), []int{0}, 1, 2, 0, 0, api.ErrArg)
	full := greatest()
	for i := range full.Contacts {
		left := much(full)
		left[i] = -1
		refuses(t, fmt.Sprint("one of 24 below 0: ", i), full, left, 1, 2, 0, 0, api.ErrArg)
	}
	refuses(t, "23 numbers of 24", full, much(full)[:23], 1, 2, 0, 0, api.ErrArg)
	leads(t, "24 numbers", full, much(full), 1, 2, 0, 0, 2, 1)
}

// P13.1, P13.3, R2: a plan that may not be goes ahead of wrong arguments, and these ahead of no way.
func TestRouteOrderOfErrors(t *testing.T) {
	for what, p := range wrongPlans() {
		refuses(t, what, p, much(p), 1, 2, 0, 1, api.ErrPlan)
		refuses(t, what, p, much(p), 2, 1, 0, 1, api.ErrPlan)
		refuses(t, what, p, nil, 1, 2, 0, 1, api.ErrPlan)
		refuses(t, what, p, []int{-1}, 1, 1, -1, -1, api.ErrPlan)
		refuses(t, what, p, much(p), 1, 1, 0, 1, api.ErrPlan)
		refuses(t, what, p, much(p), 0, 9, 0, 1, api.ErrPlan)
		refuses(t, what, p, much(p), 1, 2, math.MaxInt, 1, api.ErrPlan)
		refuses(t, what, p, much(p), 1, 2, 0, math.MinInt, api.ErrPlan)
	}
}

// P13.3: a full plan with the greatest moments and Delays.
func TestRouteOfTheGreatest(t *testing.T) {
	p := greatest()
	leads(t, "the greatest", p, plan.Volumes(p), 6, 5, 0, 4096, 0, 1<<20+4096)
	refuses(t, "the greatest", p, plan.Volumes(p), 6, 5, 0, 4097, api.ErrNone)
	leads(t, "the greatest", p, plan.Volumes(p), 5, 6, 1<<20-1, 1<<32, 1, 1<<20+4096)
	for now := range 220 {
		leads(t, "one of 22", p, plan.Volumes(p), 1, 2, now, 1000, 2+now/10, tried(p, plan.Volumes(p), 1, 2, now, 1000).at)
	}
	refuses(t, "behind all", p, plan.Volumes(p), 1, 2, 220, 0, api.ErrNone)
	line := of(6)
	for i := range 5 {
		line.Contacts = append(line.Contacts, con(i+1, i+2, 0, 1<<20, 4096))
	}
	leads(t, "a long line", line, much(line), 1, 6, 0, 1, 0, 5*4097)
	leads(t, "a long line", line, much(line), 1, 6, 1<<20-1-4*4097, 1, 0, 1<<20+4096)
	refuses(t, "a long line", line, much(line), 1, 6, 1<<20-4*4097, 1, api.ErrNone)
}
