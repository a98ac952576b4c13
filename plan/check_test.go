package plan_test

import (
	"fmt"
	"math"
	"slices"
	"testing"

	"heliograph/api"
	"heliograph/plan"
)

// P13.1: the numbers of package api are those that the chapter and its limits say.
func TestNumbers(t *testing.T) {
	if api.ErrPlan != 230 || api.ErrArg != 2 || api.ErrNone != 4 || api.MaxRate != 4096 || api.MaxDelay != 4096 || api.MaxNodes != 6 || api.MaxContacts != 24 || api.MaxTick != 1048576 {
		t.Error("a number of package api is another one than the document says")
	}
}

// P13.1: plans that may be, and how many nodes there are.
func TestCheckOfPlans(t *testing.T) {
	for what, p := range map[string]api.Plan{"the example": example(), "unlike numbers": unlike(), "the greatest": greatest()} {
		checks(t, what, p, api.OK)
	}
	for _, n := range append(far(), -2, -1, 0, 1, 7, 8, 257) {
		checks(t, fmt.Sprint(n, " nodes"), of(n), api.ErrPlan)
		p := example()
		p.Nodes = n
		checks(t, fmt.Sprint("the example with ", n, " nodes"), p, api.ErrPlan)
	}
	for n := 2; n <= 6; n++ {
		checks(t, fmt.Sprint(n, " nodes"), of(n), api.OK)
		checks(t, fmt.Sprint(n, " nodes and an empty list"), api.Plan{Nodes: n, Contacts: []api.Contact{}}, api.OK)
	}
	for what, p := range wrongPlans() {
		checks(t, what, p, api.ErrPlan)
	}
}

// P13.1: no contacts, 24 of them, and one more, though each of them may be.
func TestCheckOfManyContacts(t *testing.T) {
	p := of(2)
	for i := range 60 {
		want := api.OK
		if i > 24 {
			want = api.ErrPlan
		}
		checks(t, fmt.Sprint(i, " contacts"), p, want)
		p.Contacts = append(p.Contacts, con(1+i%2, 2-i%2, i, i+1, 0))
	}
}

// P13.1: From and To of each plan: nodes of it, unlike.
func TestCheckOfNodes(t *testing.T) {
	for nodes := 2; nodes <= 6; nodes++ {
		ends := append(far(), -2, -1, 257)
		for i := range nodes + 3 {
			ends = append(ends, i)
		}
		for _, from := range ends {
			for _, to := range ends {
				want := api.ErrPlan
				if from >= 1 && from <= nodes && to >= 1 && to <= nodes && from != to {
					want = api.OK
				}
				checks(t, fmt.Sprintf("from %d to %d of %d nodes", from, to, nodes), of(nodes, con(from, to, 0, 1, 0)), want)
			}
		}
	}
}

// P13.1: Start and End, each held against the other, and at the limits.
func TestCheckOfMoments(t *testing.T) {
	moments := append(far(), -2, -1, 0, 1, 2, 5, 1<<20-2, 1<<20-1, 1<<20, 1<<20+1, 1<<20+2, 1<<21)
	may := 0
	for _, start := range moments {
		for _, end := range moments {
			want := api.ErrPlan
			if start >= 0 && start < end && end <= 1<<20 {
				want = api.OK
				may++
			}
			checks(t, fmt.Sprintf("from %d till %d", start, end), of(2, con(1, 2, start, end, 0)), want)
		}
	}
	if may != 21 {
		t.Errorf("%d that may be", may)
	}
}

// P13.1: Rate and Delay at their limits.
func TestCheckOfRateAndDelay(t *testing.T) {
	for _, n := range append(far(), -4096, -2, -1, 0, 1, 2, 100, 4095, 4096, 4097, 8192) {
		rate, delay := api.ErrPlan, api.ErrPlan
		if n >= 1 && n <= 4096 {
			rate = api.OK
		}
		if n >= 0 && n <= 4096 {
			delay = api.OK
		}
		checks(t, fmt.Sprint("Rate ", n), of(2, api.Contact{From: 1, To: 2, End: 1, Rate: n}), rate)
		checks(t, fmt.Sprint("Delay ", n), of(2, api.Contact{From: 1, To: 2, End: 1, Rate: 1, Delay: n}), delay)
	}
}

// P13.1: a wrong contact is found at each place, with right ones about it.
func TestCheckAtEachPlace(t *testing.T) {
	for i := range greatest().Contacts {
		for _, f := range intFields() {
			p := greatest()
			*f.of(&p.Contacts[i]) = -1
			checks(t, fmt.Sprintf("%s of the contact %d", f.name, i), p, api.ErrPlan)
		}
	}
}

// common answers whether two contacts have a moment in common, by going through them.
func common(a, b api.Contact) bool {
	for t := a.Start; t < a.End; t++ {
		if t >= b.Start && t < b.End {
			return true
		}
	}
	return false
}

// P13.1: each two contacts of a pair, in either order: apart, touching, with a moment in common, one within the other, the same.
func TestCheckOfTwoOfAPair(t *testing.T) {
	var all []api.Contact
	for start := range 6 {
		for end := start + 1; end <= 6; end++ {
			all = append(all, con(1, 2, start, end, 0))
		}
	}
	for _, a := range all {
		for _, b := range all {
			want := api.OK
			if common(a, b) {
				want = api.ErrPlan
			}
			what := fmt.Sprintf("%d till %d and %d till %d", a.Start, a.End, b.Start, b.End)
			checks(t, what, of(3, a, b), want)
			between := con(1, 3, 0, 6, 0)
			checks(t, what+" with another one between", of(3, between, a, con(2, 3, 0, 6, 0), b, con(3, 1, 0, 6, 0)), want)
			for _, p := range [][2]int{{2, 1}, {1, 3}, {3, 2}, {3, 1}} {
				other := b
				other.From, other.To = p[0], p[1]
				checks(t, what+" of two pairs", of(3, a, other), api.OK)
			}
		}
	}
}

// P13.1: how fast a contact is and how long bytes are on their way make no other pair of it.
func TestCheckOfOverlapsThatDiffer(t *testing.T) {
	a := api.Contact{From: 1, To: 2, Start: 0, End: 10, Rate: 1, Delay: 0}
	b := api.Contact{From: 1, To: 2, Start: 9, End: 12, Rate: 7, Delay: 40}
	checks(t, "one moment in common", of(2, a, b), api.ErrPlan)
	b.Start = 10
	checks(t, "touching", of(2, a, b), api.OK)
	checks(t, "touching, in the other order", of(2, b, a), api.OK)
}

// P13.1: two of 24 contacts that overlap are found at each two places.
func TestCheckOfOverlapsAtEachPlace(t *testing.T) {
	for i := range 24 {
		for j := range 24 {
			p := of(2)
			for k := range 24 {
				p.Contacts = append(p.Contacts, con(1, 2, 10*k, 10*k+10, 0))
			}
			checks(t, "none", p, api.OK)
			p.Contacts[i] = con(1, 2, 10*j+5, 10*j+6, 0)
			want := api.ErrPlan
			if i == j {
				want = api.OK
			}
			checks(t, fmt.Sprintf("%d within %d", i, j), p, want)
		}
	}
}

// P13.1: two plans are the same, if all their fields are; whether they may be is not asked.
func TestSame(t *testing.T) {
	list := []api.Plan{{}, example(), unlike(), greatest(), of(3), of(2), of(3, example().Contacts[0]), of(3, example().Contacts[:2]...), of(3, example().Contacts[1:]...), of(4, example().Contacts...)}
	for _, p := range wrongPlans() {
		if p.Nodes != 0 {
			list = append(list, p)
		}
	}
	for i, a := range list {
		for j, b := range list {
			b.Contacts = slices.Clone(b.Contacts)
			if got, want := plan.Same(a, b), fmt.Sprintf("%+v", a) == fmt.Sprintf("%+v", b); got != want {
				t.Errorf("%d, %d: Same of %v and %v: %v", i, j, a, b, got)
			}
		}
	}
	if !plan.Same(api.Plan{Nodes: 2}, api.Plan{Nodes: 2, Contacts: make([]api.Contact, 0, 5)}) || !plan.Same(api.Plan{Contacts: []api.Contact{}}, api.Plan{}) {
		t.Error("nil and empty are not the same")
	}
}

// P13.1: one field that is another one is enough, whichever, at whichever place, and by whichever bit; so is another order, or one contact more.
func TestSameOfOneFieldChanged(t *testing.T) {
	differ := func(what string, a, b api.Plan) {
		t.Helper()
		if plan.Same(a, b) || plan.Same(b, a) {
			t.Errorf("%s: the same", what)
		}
	}
	for _, make := range []func() api.Plan{example, unlike, greatest} {
		for bit := range 64 {
			p := make()
			p.Nodes ^= 1 << bit
			differ(fmt.Sprint("Nodes by bit ", bit), make(), p)
			for i := range p.Contacts {
				for _, f := range intFields() {
					p := make()
					*f.of(&p.Contacts[i]) ^= 1 << bit
					differ(fmt.Sprintf("%s of %d by bit %d", f.name, i, bit), make(), p)
				}
			}
		}
		p := make()
		slices.Reverse(p.Contacts)
		differ("another order", make(), p)
		p = make()
		p.Contacts = append(p.Contacts, api.Contact{})
		differ("one contact more", make(), p)
		p = make()
		p.Contacts = p.Contacts[:len(p.Contacts)-1]
		differ("one contact less", make(), p)
	}
	differ("numbers beyond all limits", of(math.MaxInt), of(math.MinInt))
}
