package custody

import (
	"bytes"
	"slices"

	"heliograph/api"
	"heliograph/bundle"
)

func rightBundles(l []api.Bundle) bool {
	for _, b := range l {
		if bundle.Check(b) != api.OK {
			return false
		}
	}
	return true
}

// apart answers whether no two have one key. It goes through all pairs: the list is known to be short by then.
func apart(l []api.Bundle) bool {
	for i, b := range l {
		if place(l[:i], Key(b)) >= 0 {
			return false
		}
	}
	return true
}

// held answers how many bytes they have together.
func held(l []api.Bundle) int {
	n := 0
	for _, b := range l {
		n += bundle.Size(b)
	}
	return n
}

// place answers where the bundle of that key stands, below 0 if there is none.
func place(l []api.Bundle, k api.Key) int {
	return slices.IndexFunc(l, func(b api.Bundle) bool { return Key(b) == k })
}

// those answers copies of the ones of which that is so, in their order.
func those(l []api.Bundle, so func(api.Bundle) bool) []api.Bundle {
	var out []api.Bundle
	for _, b := range l {
		if so(b) {
			out = append(out, copied(b))
		}
	}
	return out
}

func all(api.Bundle) bool {
	return true
}

func copied(b api.Bundle) api.Bundle {
	b.Payload = bytes.Clone(b.Payload)
	return b
}

func keys(l []api.Bundle) []api.Key {
	var out []api.Key
	for _, b := range l {
		out = append(out, Key(b))
	}
	return out
}
