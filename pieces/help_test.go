package pieces_test

import (
	"fmt"
	"math"
	"math/rand/v2"
	"reflect"
	"slices"
	"testing"

	"heliograph/api"
	"heliograph/bundle"
	"heliograph/pieces"
)

// most is how many bytes a payload has at most.
const most = 400

// answer is what a call answers.
type answer struct {
	l []api.Bundle
	m []api.Claim
	b api.Bundle
	e api.Errno
}

func ofCut(l []api.Bundle, e api.Errno) answer {
	return answer{l: l, e: e}
}

func ofMissing(m []api.Claim, e api.Errno) answer {
	return answer{m: m, e: e}
}

func ofJoin(b api.Bundle, e api.Errno) answer {
	return answer{b: b, e: e}
}

// text tells all fields; nil and empty lists are one in it.
func text(x any) string {
	return fmt.Sprintf("%+v", x)
}

// wants asks for just that answer; text is slow, and only asked where lists may be nil in one and empty in the other.
func wants(t *testing.T, what string, got, want answer) {
	t.Helper()
	if !reflect.DeepEqual(got, want) && text(got) != text(want) {
		t.Errorf("%s:\n answered %+v\n want     %+v", what, got, want)
	}
}

// refuses asks for an error, and zeros beside it.
func refuses(t *testing.T, what string, got answer, e api.Errno) {
	t.Helper()
	if !reflect.DeepEqual(got, answer{e: e}) && text(got) != text(answer{e: e}) {
		t.Errorf("%s: answered %+v, want error %d and nothing else", what, got, e)
	}
}

// fill is n bytes, others for each seed; no two that stand near one another are alike.
func fill(seed, n int) []byte {
	b := make([]byte, n)
	for i := range b {
		b[i] = byte(seed*31 + i*7 + i/256 + 1)
	}
	return b
}

// example is the chapter's b.
func example() api.Bundle {
	return api.Bundle{Source: 1, Dest: 2, Seq: 1, Lifetime: 10, HopLimit: 4, Total: 5, Payload: []byte{5, 6, 7, 8, 9}}
}

// whole is a bundle of n bytes that has no two numbers the same, and none that is 0, but Offset.
func whole(n int) api.Bundle {
	return api.Bundle{Source: 5, Dest: 4, Seq: 70000, Created: 1000, Lifetime: 300, HopLimit: 15, Hops: 9, Priority: 1, Total: n, Payload: fill(n, n)}
}

// part is what a whole bundle has from at on, n bytes of it.
func part(b api.Bundle, at, n int) api.Bundle {
	b.Offset, b.Payload = at, slices.Clone(b.Payload[at:at+n])
	return b
}

// parts are all pieces that a whole bundle can have, itself among them.
func parts(b api.Bundle) []api.Bundle {
	var out []api.Bundle
	for at := range b.Total {
		for n := 1; at+n <= b.Total; n++ {
			out = append(out, part(b, at, n))
		}
	}
	return out
}

// changed is a bundle to which something was done; what it was handed stays.
func changed(b api.Bundle, f func(b *api.Bundle)) api.Bundle {
	b.Payload = slices.Clone(b.Payload)
	f(&b)
	return b
}

func deep(l []api.Bundle) []api.Bundle {
	l = slices.Clone(l)
	for i := range l {
		l[i].Payload = slices.Clone(l[i].Payload)
	}
	return l
}

// fine are bundles that may be, whole ones and pieces.
func fine() map[string]api.Bundle {
	out := map[string]api.Bundle{
		"the chapter's": example(), "a piece at the front": part(whole(390), 0, 12), "a piece in the midst": part(whole(390), 30, 17), "a piece at the end": part(whole(390), 379, 11), "a piece of one byte": part(whole(390), 77, 1), "the last byte of the most": part(whole(most), most-1, 1), "all but one": part(whole(most), 1, most-1),
		"the least":    {Source: 1, Dest: 1, Seq: 1, Lifetime: 1, HopLimit: 1, Total: 1, Payload: []byte{0}},
		"the greatest": {Source: 6, Dest: 6, Seq: math.MaxUint32, Created: api.MaxTick, Lifetime: api.MaxTick, HopLimit: 16, Hops: 16, Priority: 2, Total: most, Payload: fill(8, most)},
	}
	for _, n := range []int{1, 2, 3, 4, 7, 16, 60, 255, 256, 257, most - 1, most} {
		out[fmt.Sprint("whole, ", n)] = whole(n)
	}
	return out
}

// wrong are bundles that may not be, each for one reason.
func wrong() map[string]api.Bundle {
	out := map[string]api.Bundle{"zero": {}}
	for what, f := range map[string]func(b *api.Bundle){
		"Source 0": func(b *api.Bundle) { b.Source = 0 }, "Source 7": func(b *api.Bundle) { b.Source = 7 }, "Source far": func(b *api.Bundle) { b.Source += 1 << 32 },
		"Dest 0": func(b *api.Bundle) { b.Dest = 0 }, "Dest 7": func(b *api.Bundle) { b.Dest = 7 }, "Seq 0": func(b *api.Bundle) { b.Seq = 0 },
		"Created -1": func(b *api.Bundle) { b.Created = -1 }, "Created": func(b *api.Bundle) { b.Created = api.MaxTick + 1 }, "Lifetime 0": func(b *api.Bundle) { b.Lifetime = 0 }, "Lifetime": func(b *api.Bundle) { b.Lifetime = api.MaxTick + 1 },
		"HopLimit 0": func(b *api.Bundle) { b.HopLimit, b.Hops = 0, 0 }, "HopLimit 17": func(b *api.Bundle) { b.HopLimit = 17 }, "Hops -1": func(b *api.Bundle) { b.Hops = -1 }, "Hops": func(b *api.Bundle) { b.Hops = b.HopLimit + 1 },
		"Priority -1": func(b *api.Bundle) { b.Priority = -1 }, "Priority 3": func(b *api.Bundle) { b.Priority = 3 }, "Offset -1": func(b *api.Bundle) { b.Offset = -1 }, "Offset": func(b *api.Bundle) { b.Offset = b.Total - len(b.Payload) + 1 }, "Offset far": func(b *api.Bundle) { b.Offset = math.MaxInt }, "Offset further": func(b *api.Bundle) { b.Offset = math.MinInt },
		"Total 0": func(b *api.Bundle) { b.Total = 0 }, "Total -1": func(b *api.Bundle) { b.Total = -1 }, "Total 401": func(b *api.Bundle) { b.Total = 401 }, "Total far": func(b *api.Bundle) { b.Total = math.MaxInt }, "Total further": func(b *api.Bundle) { b.Total = math.MinInt },
		"no Payload": func(b *api.Bundle) { b.Payload = nil }, "an empty Payload": func(b *api.Bundle) { b.Payload = []byte{} }, "a long Payload": func(b *api.Bundle) { b.Payload = fill(1, b.Total-b.Offset+1) }, "a huge Payload": func(b *api.Bundle) { b.Payload = make([]byte, 1<<16) },
	} {
		out[what] = changed(part(whole(120), 40, 30), f)
		out[what+", whole"] = changed(whole(12), f)
	}
	return out
}

// fields are what makes a bundle another one, by one field each, such as may not go together with it.
func fields() map[string]func(b *api.Bundle) {
	out := map[string]func(b *api.Bundle){
		"Source 1": func(b *api.Bundle) { b.Source++ }, "Dest 1": func(b *api.Bundle) { b.Dest++ }, "Created 1": func(b *api.Bundle) { b.Created++ }, "Lifetime 1": func(b *api.Bundle) { b.Lifetime++ }, "HopLimit 1": func(b *api.Bundle) { b.HopLimit++ }, "Priority 1": func(b *api.Bundle) { b.Priority++ }, "Total 1": func(b *api.Bundle) { b.Total++ },
		"Source -1": func(b *api.Bundle) { b.Source-- }, "Dest -1": func(b *api.Bundle) { b.Dest-- }, "Created -1": func(b *api.Bundle) { b.Created-- }, "Lifetime -1": func(b *api.Bundle) { b.Lifetime-- }, "HopLimit -1": func(b *api.Bundle) { b.HopLimit-- }, "Priority -1": func(b *api.Bundle) { b.Priority-- }, "Total -1": func(b *api.Bundle) { b.Total-- },
		"Created 0": func(b *api.Bundle) { b.Created = 0 }, "Created 1000 more": func(b *api.Bundle) { b.Created, b.Lifetime = b.Lifetime, b.Created }, "ways exchanged": func(b *api.Bundle) { b.Source, b.Dest = b.Dest, b.Source }, "Total 400": func(b *api.Bundle) { b.Total = 400 },
		"Created, 16 bits up": func(b *api.Bundle) { b.Created += 1 << 16 }, "Lifetime, 16 bits up": func(b *api.Bundle) { b.Lifetime += 1 << 16 },
	}
	for bit := range 32 {
		out[fmt.Sprint("Seq, bit ", bit)] = func(b *api.Bundle) { b.Seq ^= 1 << bit }
	}
	return out
}

// What the chapter says, told once more.

// toldCut takes n bytes off the front, as long as there are some.
func toldCut(b api.Bundle, n int) answer {
	if bundle.Check(b) != api.OK {
		return answer{e: api.ErrBundle}
	}
	if n <= 0 {
		return answer{e: api.ErrArg}
	}
	var out []api.Bundle
	for len(b.Payload) > n {
		piece := b
		piece.Payload = slices.Clone(b.Payload[:n])
		out = append(out, piece)
		b.Payload = b.Payload[n:]
		b.Offset += n
	}
	b.Payload = slices.Clone(b.Payload)
	return answer{l: append(out, b)}
}

// toldTogether makes both the same but for the bytes, by what may differ, and asks for each place of the whole payload.
func toldTogether(a, b api.Bundle) bool {
	if bundle.Check(a) != api.OK || bundle.Check(b) != api.OK {
		return false
	}
	x, y := a, b
	x.Offset, x.Payload, x.Hops = 0, nil, 0
	y.Offset, y.Payload, y.Hops = 0, nil, 0
	if !reflect.DeepEqual(x, y) {
		return false
	}
	for at := range a.Total {
		i, j := at-a.Offset, at-b.Offset
		if i >= 0 && j >= 0 && i < len(a.Payload) && j < len(b.Payload) && a.Payload[i] != b.Payload[j] {
			return false
		}
	}
	return true
}

// goes asks each two of a list, and each one with itself.
func goes(l []api.Bundle) bool {
	for _, a := range l {
		for _, b := range l {
			if !toldTogether(a, b) {
				return false
			}
		}
	}
	return len(l) > 0
}

// laid are the bytes that a list has, by their places.
func laid(l []api.Bundle) map[int]byte {
	out := map[int]byte{}
	for _, b := range l {
		for i, x := range b.Payload {
			out[b.Offset+i] = x
		}
	}
	return out
}

func toldMissing(l []api.Bundle) answer {
	if !goes(l) {
		return answer{e: api.ErrPieces}
	}
	there := laid(l)
	var out []api.Claim
	for at := range l[0].Total {
		if _, ok := there[at]; ok {
			continue
		}
		if n := len(out); n > 0 && out[n-1].At+out[n-1].N == at {
			out[n-1].N++
		} else {
			out = append(out, api.Claim{At: at, N: 1})
		}
	}
	return answer{m: out}
}

func toldJoin(l []api.Bundle) answer {
	if !goes(l) {
		return answer{e: api.ErrPieces}
	}
	there := laid(l)
	b := l[0]
	b.Offset, b.Payload = 0, nil
	for at := range b.Total {
		x, ok := there[at]
		if !ok {
			return answer{e: api.ErrNone}
		}
		b.Payload = append(b.Payload, x)
	}
	for _, c := range l {
		b.Hops = max(b.Hops, c.Hops)
	}
	return answer{b: b}
}

// asks holds Missing and Join of a list, and Together of its first and last one, against what is told once more.
func asks(t *testing.T, what string, l []api.Bundle) {
	t.Helper()
	wants(t, what+": Missing", ofMissing(pieces.Missing(l)), toldMissing(l))
	wants(t, what+": Join", ofJoin(pieces.Join(l)), toldJoin(l))
	if len(l) > 0 {
		both(t, what, l[0], l[len(l)-1], toldTogether(l[0], l[len(l)-1]))
	}
}

// both asks Together of two, whichever comes first.
func both(t *testing.T, what string, a, b api.Bundle, want bool) {
	t.Helper()
	if pieces.Together(a, b) != want || pieces.Together(b, a) != want {
		t.Errorf("%s: Together of %+v and %+v is not %t both ways", what, a, b, want)
	}
}

type dice struct {
	*rand.Rand
}

func chance(seed uint64) dice {
	return dice{rand.New(rand.NewPCG(seed, 18))}
}

// whole is a bundle of n bytes, its numbers whatever they may be.
func (d dice) whole(n int) api.Bundle {
	b := api.Bundle{Source: 1 + d.IntN(6), Dest: 1 + d.IntN(6), Seq: 1 + d.Uint32N(math.MaxUint32), Created: d.IntN(api.MaxTick + 1), Lifetime: 1 + d.IntN(api.MaxTick), HopLimit: 1 + d.IntN(16), Priority: d.IntN(3), Total: n}
	b.Hops = d.IntN(b.HopLimit + 1)
	for range n {
		b.Payload = append(b.Payload, byte(d.IntN(256)))
	}
	return b
}

// part is some piece of a whole bundle, with Hops of its own.
func (d dice) part(b api.Bundle) api.Bundle {
	at := d.IntN(b.Total)
	p := part(b, at, 1+d.IntN(b.Total-at))
	p.Hops = d.IntN(p.HopLimit + 1)
	return p
}

// shuffled is a list in some order, some of it doubled.
func (d dice) shuffled(l []api.Bundle) []api.Bundle {
	out := deep(l)
	for range d.IntN(4) {
		if len(l) > 0 {
			out = append(out, deep(l[d.IntN(len(l)):])[0])
		}
	}
	d.Shuffle(len(out), func(i, j int) { out[i], out[j] = out[j], out[i] })
	return out
}
