package plan_test

import (
	"fmt"
	"math"
	"math/rand/v2"
	"slices"
	"testing"

	"heliograph/api"
	"heliograph/plan"
)

// con answers a contact that carries 100 bytes a tick.
func con(from, to, start, end, delay int) api.Contact {
	return api.Contact{From: from, To: to, Start: start, End: end, Rate: 100, Delay: delay}
}

func of(nodes int, list ...api.Contact) api.Plan {
	return api.Plan{Nodes: nodes, Contacts: list}
}

// example is the chapter's plan.
func example() api.Plan {
	return of(3,
		api.Contact{From: 1, To: 2, Start: 0, End: 10, Rate: 100, Delay: 2},
		api.Contact{From: 2, To: 3, Start: 20, End: 30, Rate: 50, Delay: 0},
		api.Contact{From: 1, To: 3, Start: 25, End: 26, Rate: 10, Delay: 0},
	)
}

// unlike is a plan in which no two numbers of a contact are the same, so that fields that are mixed up are seen.
func unlike() api.Plan {
	return of(6, api.Contact{From: 5, To: 3, Start: 7, End: 70, Rate: 11, Delay: 2}, api.Contact{From: 6, To: 4, Start: 100, End: 2000, Rate: 77, Delay: 900})
}

// greatest is a plan of 24 contacts, among them one with the greatest numbers that there may be.
func greatest() api.Plan {
	p := of(6, api.Contact{From: 6, To: 5, Start: 1<<20 - 1, End: 1 << 20, Rate: 4096, Delay: 4096}, api.Contact{From: 5, To: 6, Start: 0, End: 1 << 20, Rate: 4096, Delay: 4096})
	for i := range 22 {
		p.Contacts = append(p.Contacts, con(1, 2, 10*i, 10*i+10, i))
	}
	return p
}

// wrongPlans are plans that may not be, by what is wrong.
func wrongPlans() map[string]api.Plan {
	out := map[string]api.Plan{
		"nothing":          {},
		"one node":         of(1),
		"seven nodes":      of(7),
		"25 contacts":      of(6, append(greatest().Contacts, con(1, 2, 500, 501, 0))...),
		"two that overlap": of(3, con(1, 2, 0, 10, 0), con(1, 3, 0, 10, 0), con(1, 2, 9, 11, 0)),
	}
	for _, f := range intFields() {
		for _, n := range []int{f.least - 1, f.most + 1, math.MinInt, math.MaxInt} {
			p := of(3, con(1, 2, 0, 10, 0), con(1, 3, 5, 6, 0), con(2, 3, 0, 10, 0))
			*f.of(&p.Contacts[1]) = n
			out[fmt.Sprint(f.name, " ", n)] = p
		}
	}
	return out
}

// field is a number of a contact from 1 to 3, from 5 till 6, in a plan of 3 nodes, and from where to where it may be.
type field struct {
	name        string
	of          func(c *api.Contact) *int
	least, most int
}

func intFields() []field {
	return []field{
		{"From", func(c *api.Contact) *int { return &c.From }, 1, 2},
		{"To", func(c *api.Contact) *int { return &c.To }, 2, 3},
		{"Start", func(c *api.Contact) *int { return &c.Start }, 0, 5},
		{"End", func(c *api.Contact) *int { return &c.End }, 6, 1 << 20},
		{"Rate", func(c *api.Contact) *int { return &c.Rate }, 1, 4096},
		{"Delay", func(c *api.Contact) *int { return &c.Delay }, 0, 4096},
	}
}

// far are numbers far from all that may be, some of which would be taken for small ones, if they were cut.
func far() []int {
	return []int{math.MinInt, math.MinInt + 1, -1 << 32, -1<<32 + 1, 1 << 32, 1<<32 + 1, 1<<32 + 2, 1 << 62, math.MaxInt - 1, math.MaxInt}
}

// much answers more for each contact than any need of these tests.
func much(p api.Plan) []int {
	out := make([]int, len(p.Contacts))
	for i := range out {
		out[i] = 1 << 30
	}
	return out
}

func checks(t *testing.T, what string, p api.Plan, want api.Errno) {
	t.Helper()
	if e := plan.Check(p); e != want {
		t.Errorf("%s: Check: error %d, want %d", what, e, want)
	}
}

func opens(t *testing.T, what string, p api.Plan, from, to, now, place int, want api.Errno) {
	t.Helper()
	if i, e := plan.Open(p, from, to, now); i != place || e != want {
		t.Errorf("%s: Open(%d, %d, %d): %d, error %d; want %d, error %d", what, from, to, now, i, e, place, want)
	}
}

// answer is what Route answers.
type answer struct {
	place, at int
	e         api.Errno
}

func route(p api.Plan, left []int, from, to, now, need int) answer {
	i, at, e := plan.Route(p, left, from, to, now, need)
	return answer{i, at, e}
}

// leads asks for a way.
func leads(t *testing.T, what string, p api.Plan, left []int, from, to, now, need, place, at int) {
	t.Helper()
	if got, want := route(p, left, from, to, now, need), (answer{place, at, api.OK}); got != want {
		t.Errorf("%s: Route from %d to %d at %d with the need %d, %v: %v, want %v", what, from, to, now, need, left, got, want)
	}
}

// refuses asks for an error, and for nothing beside it.
func refuses(t *testing.T, what string, p api.Plan, left []int, from, to, now, need int, e api.Errno) {
	t.Helper()
	if got, want := route(p, left, from, to, now, need), (answer{e: e}); got != want {
		t.Errorf("%s: Route from %d to %d at %d with the need %d, %v: %v, want %v", what, from, to, now, need, left, got, want)
	}
}

// tried answers what Route must, by trying all ways: those that come back to where they were, and go by a contact again, too.
// Each contact takes a tick at least, so a way ends when all contacts have.
func tried(p api.Plan, left []int, from, to, now, need int) answer {
	best := answer{e: api.ErrNone}
	var walk func(node, at, first int)
	walk = func(node, at, first int) {
		if node == to && (best.e != api.OK || at < best.at || at == best.at && first < best.place) {
			best = answer{first, at, api.OK}
		}
		for i, c := range p.Contacts {
			if c.From != node || left[i] < need || at >= c.End {
				continue
			}
			begins := first
			if begins < 0 {
				begins = i
			}
			walk(c.To, max(at, c.Start)+1+c.Delay, begins)
		}
	}
	walk(from, now, -1)
	return best
}

// chance answers numbers that are the same at each run.
func chance(seed uint64) *rand.Rand {
	return rand.New(rand.NewPCG(seed, 13))
}

// somePlan answers a plan that may be, of up to so many nodes and contacts, with Ends up to end and Delays up to delay, and what is left of it.
func somePlan(r *rand.Rand, nodes, contacts, end, delay int) (api.Plan, []int) {
	p := of(2 + r.IntN(nodes-1))
	var left []int
	for range contacts {
		c := con(1+r.IntN(p.Nodes), 1+r.IntN(p.Nodes), r.IntN(end), 0, r.IntN(delay+1))
		c.End = c.Start + 1 + r.IntN(end-c.Start)
		c.Rate = 1 + r.IntN(3)
		if q := of(p.Nodes, append(slices.Clone(p.Contacts), c)...); plan.Check(q) == api.OK {
			p = q
			left = append(left, r.IntN(4))
		}
	}
	return p, left
}

// asked is something that Route is asked.
type asked struct{ from, to, now, need int }

// each tells all pairs of a plan's nodes with moments up to end and needs up to need.
func each(p api.Plan, end, need int, tell func(a asked)) {
	for from := 1; from <= p.Nodes; from++ {
		for to := 1; to <= p.Nodes; to++ {
			for now := 0; now <= end && from != to; now++ {
				for n := range need + 1 {
					tell(asked{from, to, now, n})
				}
			}
		}
	}
}

func (a asked) of(p api.Plan, left []int) answer {
	return route(p, left, a.from, a.to, a.now, a.need)
}
