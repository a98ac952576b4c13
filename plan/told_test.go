package plan_test

import (
	"fmt"
	"math"
	"slices"
	"testing"

	"heliograph/api"
	"heliograph/plan"
)

// P13.2: the chapter's examples.
func TestOpenAndVolumesExamples(t *testing.T) {
	opens(t, "the example", example(), 1, 2, 9, 0, api.OK)
	opens(t, "the example", example(), 1, 2, 10, 0, api.ErrNone)
	if got := plan.Volumes(example()); !slices.Equal(got, []int{1000, 500, 10}) {
		t.Errorf("Volumes: %v", got)
	}
}

// P13.2: a contact is open at its Start and till End, not at End, and not ahead of it.
func TestOpenAtTheEdges(t *testing.T) {
	for _, r := range [][2]int{{0, 1}, {0, 10}, {1, 2}, {20, 30}, {25, 26}, {0, 1 << 20}, {1<<20 - 1, 1 << 20}} {
		start, end := r[0], r[1]
		p := of(4, con(2, 1, 0, 1<<20, 0), con(1, 3, 0, 1<<20, 0), con(1, 2, start, end, 9), con(3, 2, 0, 1<<20, 0))
		for _, now := range append(far(), -1, 0, 1, start-1, start, start+1, end-1, end, end+1, end+9, end+10, 1<<20-1, 1<<20, 1<<20+1) {
			if now >= start && now < end {
				opens(t, fmt.Sprint(r), p, 1, 2, now, 2, api.OK)
			} else {
				opens(t, fmt.Sprint(r), p, 1, 2, now, 0, api.ErrNone)
			}
		}
	}
}

// P13.2: of several contacts of a pair the one that has the moment, in whatever order they stand.
func TestOpenOfSeveral(t *testing.T) {
	p := of(2, con(1, 2, 20, 30, 0), con(2, 1, 0, 40, 0), con(1, 2, 0, 10, 50), con(1, 2, 10, 12, 0), con(1, 2, 35, 36, 0))
	for now := -2; now < 45; now++ {
		switch {
		case now >= 20 && now < 30:
			opens(t, "the first", p, 1, 2, now, 0, api.OK)
		case now >= 0 && now < 10:
			opens(t, "the third", p, 1, 2, now, 2, api.OK)
		case now == 10 || now == 11:
			opens(t, "one that touches it", p, 1, 2, now, 3, api.OK)
		case now == 35:
			opens(t, "the last", p, 1, 2, now, 4, api.OK)
		default:
			opens(t, "none", p, 1, 2, now, 0, api.ErrNone)
		}
	}
}

// P13.2: each pair has its own contacts; pairs that are none, or none of the plan's nodes, have no contact, and that is no wrong argument.
func TestOpenOfPairs(t *testing.T) {
	p := of(6)
	where := map[[2]int]int{}
	for i, pair := range [][2]int{{1, 2}, {2, 1}, {6, 5}, {3, 1}, {1, 3}, {5, 6}, {2, 3}} {
		where[pair] = i
		p.Contacts = append(p.Contacts, con(pair[0], pair[1], 0, 10, 0))
	}
	ends := append(far(), -1, 0, 1, 2, 3, 4, 5, 6, 7)
	for _, from := range ends {
		for _, to := range ends {
			if i, ok := where[[2]int{from, to}]; ok {
				opens(t, "a pair that has one", p, from, to, 5, i, api.OK)
			} else {
				opens(t, "a pair that has none", p, from, to, 5, 0, api.ErrNone)
			}
		}
	}
	opens(t, "no contacts", of(2), 1, 2, 0, 0, api.ErrNone)
}

// P13.1, P13.2, R2: a plan that may not be is told ahead of all else, whatever is asked.
func TestOpenOfPlansThatMayNotBe(t *testing.T) {
	for what, p := range wrongPlans() {
		for _, a := range [][3]int{{1, 2, 0}, {1, 2, 500}, {1, 3, 5}, {2, 3, 0}, {1, 1, 0}, {0, 9, -1}, {math.MinInt, math.MaxInt, math.MaxInt}} {
			opens(t, what, p, a[0], a[1], a[2], 0, api.ErrPlan)
		}
	}
}

func carries(t *testing.T, c api.Contact, want int) {
	t.Helper()
	if got := plan.Volume(c); got != want {
		t.Errorf("Volume of %+v: %d, want %d", c, got, want)
	}
}

// P13.2: Rate for each moment, and nothing else counts: what may not be for another reason has its Volume, too.
func TestVolume(t *testing.T) {
	rows := []struct{ start, end, rate, want int }{
		{0, 10, 100, 1000}, {20, 30, 50, 500}, {25, 26, 10, 10},
		{0, 1, 1, 1}, {0, 1, 0, 0}, {5, 9, 0, 0}, {3, 5, 7, 14},
		{0, 1 << 20, 1, 1 << 20}, {0, 1 << 20, 4096, 1 << 32}, {0, 1 << 20, 4097, 4097 << 20},
		{0, 1 << 20, 1 << 20, 1 << 40}, {0, 1<<20 - 1, 1<<20 - 1, (1<<20 - 1) * (1<<20 - 1)}, {1<<20 - 1, 1 << 20, 1 << 20, 1 << 20},
	}
	for _, r := range rows {
		c := api.Contact{From: 1, To: 2, Start: r.start, End: r.end, Rate: r.rate}
		carries(t, c, r.want)
		for _, n := range append(far(), -1, 0, 1, 2, 7, 4096, 4097) {
			c.From, c.To, c.Delay = n, n, n
			carries(t, c, r.want)
		}
	}
}

// P13.2: 0, for each of the reasons by itself, and for all numbers that would pass the greatest int.
func TestVolumeOfNothing(t *testing.T) {
	right := api.Contact{From: 1, To: 2, Start: 5, End: 9, Rate: 3}
	carries(t, right, 12)
	change := func(f func(c *api.Contact)) {
		t.Helper()
		c := right
		f(&c)
		carries(t, c, 0)
	}
	for _, n := range append(far(), -2, -1, 0, 1<<20+1, 1<<21) {
		change(func(c *api.Contact) { c.Rate = n })
		change(func(c *api.Contact) { c.End = n })
		if n != 0 {
			change(func(c *api.Contact) { c.Start = n })
		}
		for _, m := range append(far(), -1, 1<<20+1) {
			change(func(c *api.Contact) { c.Rate, c.End = n, m })
			change(func(c *api.Contact) { c.Start, c.End = m, n })
			change(func(c *api.Contact) { c.Start, c.End, c.Rate = m, m+1, n })
			change(func(c *api.Contact) { c.Start, c.End, c.Rate = m, math.MaxInt, 1 })
		}
	}
	for _, r := range [][2]int{{5, 5}, {0, 0}, {6, 5}, {1 << 20, 1 << 20}, {1 << 20, 1<<20 - 1}, {1 << 20, 0}, {1 << 20, 1<<20 + 1}, {-1, 5}, {-5, -1}, {-1, 0}, {0, 1<<20 + 1}} {
		change(func(c *api.Contact) { c.Start, c.End = r[0], r[1] })
	}
	carries(t, api.Contact{}, 0)
}

// P13.2: Volume by counting, over all small numbers.
func TestVolumeByCounting(t *testing.T) {
	for start := -2; start < 6; start++ {
		for end := -2; end < 8; end++ {
			for rate := -2; rate < 5; rate++ {
				want := 0
				for range max(0, end-start) {
					want += rate
				}
				if start < 0 || end < 0 || rate < 0 {
					want = 0
				}
				carries(t, api.Contact{Start: start, End: end, Rate: rate}, want)
			}
		}
	}
}

// P13.2: what each contact can carry, in their order; nothing, if the plan may not be, though contacts of it may.
func TestVolumes(t *testing.T) {
	for what, p := range map[string]api.Plan{"the example": example(), "unlike": unlike(), "the greatest": greatest(), "none": of(2)} {
		got := plan.Volumes(p)
		if len(got) != len(p.Contacts) {
			t.Fatalf("%s: %d numbers of %d contacts", what, len(got), len(p.Contacts))
		}
		for i, c := range p.Contacts {
			if got[i] != c.Rate*(c.End-c.Start) {
				t.Errorf("%s: %d of the contact %d", what, got[i], i)
			}
		}
	}
	if got := plan.Volumes(greatest()); got[0] != 4096 || got[1] != 1<<32 || got[2] != 1000 {
		t.Errorf("the greatest: %v", got)
	}
	for what, p := range wrongPlans() {
		if got := plan.Volumes(p); len(got) != 0 {
			t.Errorf("%s: Volumes: %v", what, got)
		}
	}
}
