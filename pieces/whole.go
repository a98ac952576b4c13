package pieces

import (
	"heliograph/api"
	"heliograph/bundle"
)

// whole is what a list has of the whole payload: of which places there is a byte, and these bytes.
type whole struct {
	has   []bool
	bytes []byte
}

// gather answers what the list has; false, if it does not go together. Instead of each two of the list, each one is held against the first one and against the bytes of those ahead of it: that comes to the same, and a list may be long.
func gather(l []api.Bundle) (whole, bool) {
	if len(l) == 0 || bundle.Check(l[0]) != api.OK {
		return whole{}, false
	}
	w := whole{has: make([]bool, l[0].Total), bytes: make([]byte, l[0].Total)}
	for i := range l {
		if bundle.Check(l[i]) != api.OK || !alike(&l[0], &l[i]) || !w.take(&l[i]) {
			return whole{}, false
		}
	}
	return w, true
}

// take lays the payload at its place; it answers false at a byte that is another one than is there.
func (w *whole) take(b *api.Bundle) bool {
	for i, x := range b.Payload {
		at := b.Offset + i
		if w.has[at] && w.bytes[at] != x {
			return false
		}
		w.has[at], w.bytes[at] = true, x
	}
	return true
}

// head is what is the same in all pieces of a bundle; what is left without lists can be compared.
type head struct {
	source, dest      int
	seq               uint32
	created, lifetime int
	hopLimit          int
	priority, total   int
}

func headOf(b *api.Bundle) head {
	return head{
		source: b.Source, dest: b.Dest,
		seq:     b.Seq,
		created: b.Created, lifetime: b.Lifetime,
		hopLimit: b.HopLimit,
		priority: b.Priority, total: b.Total,
	}
}

func alike(a, b *api.Bundle) bool {
	return headOf(a) == headOf(b)
}

// gaps answers the rows of places without a byte, rising, each as long as can be.
func gaps(has []bool) []api.Claim {
	var out []api.Claim
places:
	for at := 0; at < len(has); at++ {
		if has[at] {
			continue
		}
		gap := api.Claim{At: at}
		for ; !has[at]; at++ {
			gap.N++
			if at+1 == len(has) {
				out = append(out, gap)
				break places
			}
		}
		out = append(out, gap)
	}
	return out
}
