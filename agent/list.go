package agent

import (
	"bytes"
	"slices"

	"heliograph/api"
	"heliograph/custody"
)

func copied(a api.Agent) api.Agent {
	a.Seen = slices.Clone(a.Seen)
	a.Parts = those(a.Parts, all)
	return a
}

// those answers copies of the ones of which that is so, in their order.
func those(l []api.Bundle, so func(api.Bundle) bool) []api.Bundle {
	var out []api.Bundle
	for _, b := range l {
		if so(b) {
			out = append(out, fresh(b))
		}
	}
	return out
}

func all(api.Bundle) bool {
	return true
}

func fresh(b api.Bundle) api.Bundle {
	b.Payload = bytes.Clone(b.Payload)
	return b
}

// seenOf is what is remembered of a bundle. A piece that is cut otherwise has another key or another number of bytes: it is taken in by itself.
func seenOf(b api.Bundle) api.Seen {
	return api.Seen{Key: custody.Key(b), N: len(b.Payload)}
}

// behind puts s behind l, which is the agent's own; of more than MaxSeen the first one goes.
func behind(l []api.Seen, s api.Seen) []api.Seen {
	l = append(l, s)
	return l[max(0, len(l)-api.MaxSeen):]
}
