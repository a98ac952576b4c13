package plan

import (
	"iter"
	"math"

	"heliograph/api"
)

// never is when one arrives that has no way: later than any other moment, and behind each contact's End.
const never = math.MaxInt

// search is what ways are looked for with: those to a node, by contacts of which so much is left, for a need.
type search struct {
	plan api.Plan
	left []int
	to   int
	need int
}

// right answers whether ways from a node, from a moment on, may be asked for.
func (s search) right(from, now int) bool {
	if len(s.left) != len(s.plan.Contacts) || s.need < 0 {
		return false
	}
	for _, n := range s.left {
		if n < 0 {
			return false
		}
	}
	return from != s.to && within(from, 1, s.plan.Nodes) && within(s.to, 1, s.plan.Nodes) && within(now, 0, api.MaxTick)
}

// begin answers the contact with which the earliest way begins, and when that arrives.
// Each contact is asked for by itself: one that gets to a node later than another one, or by a way that comes back here, arrives no later where a Start is waited for, and then the least place counts.
func (s search) begin(from, now int) (int, int) {
	first, best := 0, never
	for i, c := range s.usable(from) {
		if at := s.earliest(c.To, arrival(c, now)); at < best {
			first, best = i, at
		}
	}
	return first, best
}

// earliest answers when one that is at a node at a moment gets to where the search leads; never, if there is no way.
func (s search) earliest(node, at int) int {
	var when [api.MaxNodes + 1]int // by nodes; no node is 0, so one never arrives there
	for i := range when {
		when[i] = never
	}
	when[node] = at
	var settled [api.MaxNodes + 1]bool
nearest:
	for {
		near := 0
		for i, t := range when {
			if !settled[i] && t < when[near] {
				near = i
			}
		}
		switch near {
		case 0, s.to: // whatever is left is later, or never
			break nearest
		}
		settled[near] = true
		for _, c := range s.usable(near) {
			when[c.To] = min(when[c.To], arrival(c, when[near]))
		}
	}
	return when[s.to]
}

// usable tells the contacts from a node of which enough is left, each with its place.
func (s search) usable(node int) iter.Seq2[int, api.Contact] {
	return func(yield func(int, api.Contact) bool) {
		for i, c := range leaving(s.plan, node) {
			if s.need <= s.left[i] && !yield(i, c) {
				return
			}
		}
	}
}

// arrival answers when one that is at the contact's From at a moment arrives by it; never, if the contact has ended by then.
func arrival(c api.Contact, at int) int {
	if at >= c.End {
		return never
	}
	return max(at, c.Start) + c.Delay + 1
}
