package plan_test

import (
	"math"
	"slices"
	"testing"

	"heliograph/api"
	"heliograph/plan"
)

// roomy answers a plan and what is left of it, with something ahead of both lists and behind their ends, and all of that.
func roomy(p api.Plan) (api.Plan, []int, []api.Contact, []int) {
	contacts := slices.Repeat([]api.Contact{{From: 1, To: 2, Start: 0, End: 1 << 20, Rate: 1, Delay: 0}}, len(p.Contacts)+20)
	numbers := slices.Repeat([]int{77}, len(p.Contacts)+20)
	end := 5 + len(p.Contacts)
	copy(contacts[5:], p.Contacts)
	copy(numbers[5:], much(p))
	p.Contacts = contacts[5:end]
	return p, numbers[5:end], contacts, numbers
}

// callAll makes each call, with arguments that are right and such that are wrong.
func callAll(p api.Plan, left []int) {
	plan.Check(p)
	plan.Volumes(p)
	plan.Same(p, p)
	plan.Same(p, api.Plan{Nodes: p.Nodes})
	for _, now := range []int{math.MinInt, -1, 0, 5, 30, 1 << 20, math.MaxInt} {
		for from := range 8 {
			for to := range 8 {
				plan.Open(p, from, to, now)
				plan.Route(p, left, from, to, now, 1)
				plan.Route(p, left, from, to, now, math.MaxInt)
				plan.Route(p, left[:len(left)/2], from, to, now, 1)
			}
		}
	}
}

// R3: what is handed in is not changed, the room behind its end neither, whether the plan may be or not.
func TestWhatIsHandedInStaysAsItWas(t *testing.T) {
	plans := wrongPlans()
	plans["the example"], plans["unlike numbers"], plans["the greatest"], plans["no contacts"] = example(), unlike(), greatest(), of(2)
	for what, p := range plans {
		q, left, contacts, numbers := roomy(p)
		wasContacts, wasNumbers := slices.Clone(contacts), slices.Clone(numbers)
		callAll(q, left)
		if !slices.Equal(contacts, wasContacts) || !slices.Equal(numbers, wasNumbers) {
			t.Errorf("%s: what was handed in has changed", what)
		}
	}
}

// R3, R5: what stands behind the end of a list is not looked at.
func TestRoomBehindTheEndDoesNotCount(t *testing.T) {
	p, left, contacts, numbers := roomy(example())
	contacts[8] = api.Contact{From: -1}
	numbers[8] = -1
	checks(t, "something behind the end", p, api.OK)
	opens(t, "something behind the end", p, 1, 2, 10, 0, api.ErrNone)
	leads(t, "something behind the end", p, left, 1, 3, 10, 10, 2, 26)
	refuses(t, "something behind the end", p, left[:2], 1, 3, 10, 10, api.ErrArg)
	if !plan.Same(p, example()) || len(plan.Volumes(p)) != 3 {
		t.Error("something behind the end is taken for a part of the plan")
	}
}

// R3: what Volumes answers is new memory, and hangs no more on the plan.
func TestVolumesAreNewMemory(t *testing.T) {
	p := example()
	a, b := plan.Volumes(p), plan.Volumes(p)
	clear(a[:cap(a)])
	_ = append(b, 1, 2, 3)
	clear(p.Contacts)
	if !slices.Equal(b, []int{1000, 500, 10}) {
		t.Errorf("what was answered is %v now", b)
	}
	if got := plan.Volumes(example()); !slices.Equal(got, []int{1000, 500, 10}) {
		t.Errorf("Volumes: %v", got)
	}
}

// R5: what a call answers hangs on its arguments alone, not on what was asked ahead of it.
func TestAnswersHangOnArgumentsAlone(t *testing.T) {
	r := chance(7)
	for range 50 {
		p, left := somePlan(r, 6, 20, 20, 5)
		q, other := somePlan(r, 6, 20, 20, 5)
		each(p, 2, 1, func(a asked) {
			was := a.of(p, left)
			a.of(q, other)
			plan.Open(q, a.to, a.from, a.now)
			plan.Volumes(q)
			if got := a.of(p, left); got != was {
				t.Errorf("%+v, %v left, %+v: %v, again %v", p, left, a, was, got)
			}
		})
	}
}

// R1: every call ends without a panic, whatever it is handed.
func TestCallsEndAtAllArguments(t *testing.T) {
	odd := append(far(), -1, 0, 1, 2, 3, 6, 7, 1<<20)
	r := chance(8)
	pick := func() int { return odd[r.IntN(len(odd))] }
	for range 3000 {
		p := of(pick())
		var left []int
		for range r.IntN(30) {
			p.Contacts = append(p.Contacts, api.Contact{From: pick(), To: pick(), Start: pick(), End: pick(), Rate: pick(), Delay: pick()})
			left = append(left, pick())
		}
		plan.Check(p)
		plan.Volumes(p)
		plan.Same(p, p)
		plan.Open(p, pick(), pick(), pick())
		plan.Route(p, left, pick(), pick(), pick(), pick())
		for _, c := range p.Contacts {
			plan.Volume(c)
		}
	}
}
