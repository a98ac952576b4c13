package receiver

import "heliograph/api"

const (
	maxLife = 65536
	maxDue  = api.MaxTick + maxLife
)

func rightNumbers(s api.Taking) bool {
	return within(s.Source, 1, api.MaxNodes) && s.Session > 0 && within(s.Total, 1, api.MaxBlock) && len(s.Bytes) == s.Total &&
		within(s.Life, 1, maxLife) && within(s.Due, 0, maxDue)
}

// rightRows takes At from Total: At and N together could pass the greatest int.
func rightRows(s api.Taking) bool {
	least := 0
	for _, row := range s.Got {
		if row.At < least || !within(row.N, 1, s.Total-row.At) {
			return false
		}
		least = row.At + row.N + 1
	}
	return true
}

// rightState asks nothing of a session that is over: it may have been so with all bytes, with some, or with none.
func rightState(s api.Taking) bool {
	switch s.State {
	case api.SessionOpen:
		return !whole(s)
	case api.SessionDone:
		return whole(s)
	case api.SessionOver:
		return true
	}
	return false
}

func whole(s api.Taking) bool {
	return len(s.Got) == 1 && s.Got[0] == api.Claim{At: 0, N: s.Total}
}

func within(x, least, greatest int) bool {
	return least <= x && x <= greatest
}
