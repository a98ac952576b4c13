package ltp

import (
	"slices"

	"heliograph/api"
)

// key is which session it is: numbers are each Source's own.
type key struct {
	source  int
	session uint32
}

func keyIn(s api.Taking) key {
	return key{s.Source, s.Session}
}

func keyClosed(c api.Closed) key {
	return key{c.Source, c.Session}
}

// numberOut needs no Source: it is the node itself for all of them.
func numberOut(o api.Outward) uint32 {
	return o.Sending.Session
}

// find answers the place of the session with that key; -1, if there is none.
func find[T any, K comparable](l []T, keyOf func(x T) K, k K) int {
	for i, x := range l {
		if keyOf(x) == k {
			return i
		}
	}
	return -1
}

func keys[T any, K comparable](l []T, keyOf func(x T) K) []K {
	var out []K
	for _, x := range l {
		out = append(out, keyOf(x))
	}
	return out
}

// apart answers whether no two of them are the same.
func apart[K comparable](l []K) bool {
	for i, k := range l {
		if slices.Contains(l[:i], k) {
			return false
		}
	}
	return true
}
