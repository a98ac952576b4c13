package agent

import (
	"slices"

	"heliograph/api"
	"heliograph/bundle"
	"heliograph/pieces"
)

// rightSeen goes through all pairs, when the list is known to be short.
func rightSeen(l []api.Seen) bool {
	if len(l) > api.MaxSeen {
		return false
	}
	for i, s := range l {
		if !rightOne(s) || slices.Contains(l[:i], s) {
			return false
		}
	}
	return true
}

// rightOne takes Offset from MaxPayload, when it is known not to be below 0: N and it together could pass the greatest int.
func rightOne(s api.Seen) bool {
	return isNode(s.Key.Source) && s.Key.Seq > 0 && s.Key.Offset >= 0 && within(s.N, 1, api.MaxPayload-s.Key.Offset)
}

// rightParts holds each one against those of its id, itself among them. Missing has an error also of one that may not be, and of a whole one nothing is missing: neither needs to be asked by itself.
func rightParts(node int, l []api.Bundle) bool {
	if len(l) > api.MaxParts {
		return false
	}
	for _, b := range l {
		gaps, e := pieces.Missing(those(l, func(x api.Bundle) bool { return oneId(x, b) }))
		if b.Dest != node || e != api.OK || len(gaps) == 0 {
			return false
		}
	}
	return true
}

func oneId(a, b api.Bundle) bool {
	return bundle.Id(a) == bundle.Id(b)
}

func isNode(x int) bool {
	return within(x, 1, api.MaxNodes)
}

func within(x, least, greatest int) bool {
	return least <= x && x <= greatest
}
