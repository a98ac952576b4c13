package plan_test

import (
	"slices"
	"testing"

	"heliograph/api"
	"heliograph/plan"
)

// held asks for what trying all ways tells.
func held(t *testing.T, p api.Plan, left []int, a asked) {
	t.Helper()
	if got, want := a.of(p, left), tried(p, left, a.from, a.to, a.now, a.need); got != want {
		t.Fatalf("%+v, %v left, %+v: Route: %v, want %v", p, left, a, got, want)
	}
}

// P13.3: each plan of up to three contacts among three nodes, with few moments, held against all ways.
func TestRouteOfEachSmallPlan(t *testing.T) {
	var all []api.Contact
	for _, pair := range [][2]int{{1, 2}, {2, 1}, {1, 3}, {3, 1}, {2, 3}, {3, 2}} {
		for _, r := range [][3]int{{0, 1, 0}, {0, 3, 0}, {1, 2, 0}, {2, 4, 0}, {0, 2, 2}, {3, 4, 1}} {
			all = append(all, con(pair[0], pair[1], r[0], r[1], r[2]))
		}
	}
	ways, plans := 0, 0
	for _, a := range all {
		for _, b := range all {
			for _, c := range all {
				p := of(3, a, b, c)
				if plan.Check(p) != api.OK {
					continue
				}
				plans++
				for now := range 4 {
					held(t, p, []int{1, 1, 1}, asked{1, 3, now, 1})
					if route(p, []int{1, 1, 1}, 1, 3, now, 1).e == api.OK {
						ways++
					}
				}
			}
		}
	}
	if plans < 20000 || ways < 20000 {
		t.Errorf("%d plans, %d ways", plans, ways)
	}
}

// P13.3: many plans of up to six nodes and ten contacts, all that can be asked of them, held against all ways.
func TestRouteHeldAgainstAllWays(t *testing.T) {
	r := chance(1)
	ways, none, waits := 0, 0, 0
	for range 1500 {
		p, left := somePlan(r, 6, 10, 8, 3)
		each(p, 8, 3, func(a asked) {
			held(t, p, left, a)
			got := a.of(p, left)
			switch {
			case got.e != api.OK:
				none++
			case p.Contacts[got.place].Start > a.now:
				waits++
			default:
				ways++
			}
		})
	}
	if ways < 10000 || none < 10000 || waits < 5000 {
		t.Errorf("%d ways, %d of them wait, %d times there is none", ways+waits, waits, none)
	}
}

// P13.3: full plans, held against all ways.
func TestRouteOfFullPlans(t *testing.T) {
	r := chance(2)
	full := 0
	for range 150 {
		p, left := somePlan(r, 6, 60, 7, 4)
		if len(p.Contacts) == 24 {
			full++
		}
		each(p, 7, 0, func(a asked) {
			a.need = r.IntN(4)
			held(t, p, left, a)
		})
	}
	if full < 30 {
		t.Errorf("%d full plans", full)
	}
}

// noLater asks whether what a answers arrives no later than what b does.
func noLater(t *testing.T, what string, a, b answer) {
	t.Helper()
	if b.e == api.OK && (a.e != api.OK || a.at > b.at) {
		t.Errorf("%s: %v, but %v", what, a, b)
	}
}

// P13.4: with more that is left, with less need, and earlier, one arrives no later.
func TestMoreArrivesNoLater(t *testing.T) {
	r := chance(3)
	for range 800 {
		p, left := somePlan(r, 6, 14, 30, 9)
		more := slices.Clone(left)
		for i := range more {
			more[i] += r.IntN(3)
		}
		each(p, 0, 0, func(a asked) {
			a.now, a.need = 1+r.IntN(30), 1+r.IntN(3)
			was := a.of(p, left)
			noLater(t, "with more left", a.of(p, more), was)
			less := a
			less.need = r.IntN(a.need)
			noLater(t, "with less need", less.of(p, left), was)
			early := a
			early.now = r.IntN(a.now)
			noLater(t, "earlier", early.of(p, left), was)
		})
	}
}

// P13.4: the way that Route begins with goes on to the arrival that was told, contact by contact; each can be gone by.
func TestTheWayGoesOn(t *testing.T) {
	r := chance(4)
	long := 0
	for range 1500 {
		p, left := somePlan(r, 6, 24, 40, 5)
		each(p, 0, 0, func(a asked) {
			a.now, a.need = r.IntN(20), r.IntN(4)
			first := a.of(p, left)
			steps := 0
			for got := first; got.e == api.OK && a.from != a.to; got = a.of(p, left) {
				if got.at != first.at {
					t.Fatalf("%+v, %v left, %+v: it arrives at %d, not at %d", p, left, a, got.at, first.at)
				}
				c := p.Contacts[got.place]
				if c.From != a.from || a.now >= c.End || left[got.place] < a.need {
					t.Fatalf("%+v, %v left, %+v: the contact %d", p, left, a, got.place)
				}
				a.from, a.now = c.To, max(a.now, c.Start)+c.Delay+1
				steps++
			}
			if first.e == api.OK && (a.from != a.to || a.now != first.at) {
				t.Fatalf("%+v, %v left: the way to %d ends at %d, at %d, not at %d", p, left, a.to, a.from, a.now, first.at)
			}
			if steps > 2 {
				long++
			}
		})
	}
	if long < 1000 {
		t.Errorf("%d ways of more than two contacts", long)
	}
}

// P13.4: contacts in another order change no arrival.
func TestAnotherOrderChangesNoArrival(t *testing.T) {
	r := chance(5)
	for range 800 {
		p, left := somePlan(r, 6, 16, 20, 5)
		q, mixed := of(p.Nodes, slices.Clone(p.Contacts)...), slices.Clone(left)
		r.Shuffle(len(mixed), func(i, j int) {
			q.Contacts[i], q.Contacts[j] = q.Contacts[j], q.Contacts[i]
			mixed[i], mixed[j] = mixed[j], mixed[i]
		})
		each(p, 0, 0, func(a asked) {
			a.now, a.need = r.IntN(20), r.IntN(4)
			x, y := a.of(p, left), a.of(q, mixed)
			if x.at != y.at || x.e != y.e {
				t.Errorf("%+v, %v left, %+v: %v, in another order %v", p, left, a, x, y)
			}
		})
	}
}

// P13.4: without a contact one arrives no earlier; without one by which one can't go any more, at the same moment.
func TestContactsThatAreNotThereAnyMore(t *testing.T) {
	r := chance(6)
	for range 600 {
		p, left := somePlan(r, 6, 14, 20, 5)
		for i, c := range p.Contacts {
			q, rest := of(p.Nodes, slices.Delete(slices.Clone(p.Contacts), i, i+1)...), slices.Delete(slices.Clone(left), i, i+1)
			each(p, 0, 0, func(a asked) {
				a.now, a.need = r.IntN(20), r.IntN(4)
				was, is := a.of(p, left), a.of(q, rest)
				noLater(t, "with one contact more", was, is)
				if dead := c.End <= a.now || left[i] < a.need; dead && (was.at != is.at || was.e != is.e) {
					t.Errorf("%+v, %v left, %+v: %v, without the contact %d %v", p, left, a, was, i, is)
				}
			})
		}
	}
}
