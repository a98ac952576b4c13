package custody_test

import (
	"fmt"
	"math"
	"math/rand/v2"
	"reflect"
	"slices"
	"sort"
	"testing"

	"heliograph/api"
	"heliograph/bundle"
	"heliograph/custody"
)

const (
	maxBundles = 32
	maxHeld    = 12000
)

// answer is what a call answers.
type answer struct {
	c    api.Custody
	gone []api.Bundle
	b    api.Bundle
	l    []api.File
	e    api.Errno
}

func of(c api.Custody, e api.Errno) answer {
	return answer{c: c, e: e}
}

func ofFind(b api.Bundle, e api.Errno) answer {
	return answer{b: b, e: e}
}

func ofExpire(c api.Custody, gone []api.Bundle, e api.Errno) answer {
	return answer{c: c, gone: gone, e: e}
}

func ofSave(l []api.File, e api.Errno) answer {
	return answer{l: l, e: e}
}

// text tells all fields; nil and empty lists are one in it.
func text(x any) string {
	return fmt.Sprintf("%+v", x)
}

// wants asks for just that answer; text is slow, and only asked where lists may be nil in one and empty in the other.
func wants(t *testing.T, what string, got, want answer) {
	t.Helper()
	if !reflect.DeepEqual(got, want) && text(got) != text(want) {
		t.Errorf("%s:\n answered %+v\n want     %+v", what, got, want)
	}
}

// refuses asks for an error, and zeros beside it.
func refuses(t *testing.T, what string, got answer, e api.Errno) {
	t.Helper()
	if text(got) != text(answer{e: e}) {
		t.Errorf("%s: answered %+v, want error %d and nothing else", what, got, e)
	}
}

// fill is n bytes, others for each seed.
func fill(seed, n int) []byte {
	b := make([]byte, n)
	for i := range b {
		b[i] = byte(seed*31 + i*7 + i/256 + 1)
	}
	return b
}

// whole is a bundle of n bytes of payload.
func whole(source int, seq uint32, n int) api.Bundle {
	return api.Bundle{Source: source, Dest: 1 + source%6, Seq: seq, Created: 3, Lifetime: 100, HopLimit: 4, Hops: 1, Priority: 1, Total: n, Payload: fill(source+int(seq), n)}
}

// piece is one of a bundle that has 400 bytes.
func piece(source int, seq uint32, at, n int) api.Bundle {
	b := whole(source, seq, n)
	b.Offset, b.Total = at, 400
	return b
}

// example are the chapter's a, b and c.
func example() []api.Bundle {
	one := func(seq uint32, priority, life int) api.Bundle {
		return api.Bundle{Source: 1, Dest: 2, Seq: seq, Lifetime: life, HopLimit: 4, Priority: priority, Total: 2, Payload: []byte{5, 6}}
	}
	return []api.Bundle{one(1, 0, 10), one(2, 2, 20), one(3, 0, 10)}
}

// list is custody of these.
func list(l ...api.Bundle) api.Custody {
	return api.Custody{List: l}
}

// unlike is custody whose bundles have no two numbers the same that are of one bundle; some keys part in one number alone.
func unlike() api.Custody {
	return list(
		api.Bundle{Source: 5, Dest: 3, Seq: 70000, Created: 1000, Lifetime: 300, HopLimit: 16, Hops: 9, Priority: 2, Offset: 30, Total: 390, Payload: fill(4, 40)},
		api.Bundle{Source: 5, Dest: 4, Seq: 70000, Created: 1001, Lifetime: 310, HopLimit: 15, Hops: 8, Priority: 1, Offset: 31, Total: 391, Payload: fill(5, 41)},
		api.Bundle{Source: 4, Dest: 3, Seq: 70000, Created: 1002, Lifetime: 299, HopLimit: 14, Hops: 7, Priority: 2, Offset: 30, Total: 392, Payload: fill(6, 42)},
		api.Bundle{Source: 5, Dest: 6, Seq: 70001, Created: 1003, Lifetime: 297, HopLimit: 13, Hops: 4, Priority: 0, Offset: 30, Total: 393, Payload: fill(7, 43)},
		api.Bundle{Source: 6, Dest: 5, Seq: 9, Created: 1004, Lifetime: 320, HopLimit: 12, Hops: 3, Priority: 2, Offset: 0, Total: 44, Payload: fill(8, 44)},
		api.Bundle{Source: 6, Dest: 5, Seq: 10, Created: 1005, Lifetime: 296, HopLimit: 11, Hops: 2, Priority: 1, Offset: 0, Total: 45, Payload: fill(9, 45)},
		api.Bundle{Source: 1, Dest: 2, Seq: math.MaxUint32, Created: 900, Lifetime: 400, HopLimit: 10, Hops: 3, Priority: 0, Offset: 7, Total: 394, Payload: fill(10, 46)},
	)
}

// many is custody of n bundles, of which some are alike but for Source, Seq or Offset, with so few bytes that all have room.
func many(n int) api.Custody {
	var c api.Custody
	for i := range n {
		b := piece(1+i%3, uint32(8+i/3%4), 90*(i/12), 5+i)
		b.Priority, b.Created, b.Lifetime = i*i%3, 100+i, 50+i*5%17
		c.List = append(c.List, b)
	}
	return c
}

// holding is custody of n bundles that have so many bytes together; each of them has 283 to 426.
func holding(t *testing.T, n, size int) api.Custody {
	t.Helper()
	var c api.Custody
	rest := size
	for i := range n {
		b := whole(1+i%6, uint32(1+i/6), 256)
		more := rest/(n-i) - bundle.Size(b)
		if more < 0 || more > 144 {
			t.Fatalf("%d bundles with %d bytes: the bundle %d is off by %d", n, size, i, more)
		}
		b = whole(b.Source, b.Seq, 256+more)
		c.List = append(c.List, b)
		rest -= bundle.Size(b)
	}
	if sizes(c.List) != size {
		t.Fatalf("%d bundles have %d bytes, not %d", n, sizes(c.List), size)
	}
	return c
}

// sizes tells how many bytes they have together.
func sizes(l []api.Bundle) int {
	n := 0
	for _, b := range l {
		x, _ := bundle.Encode(b)
		n += len(x)
	}
	return n
}

func deep(c api.Custody) api.Custody {
	return api.Custody{List: deepList(c.List)}
}

func deepList(l []api.Bundle) []api.Bundle {
	l = slices.Clone(l)
	for i := range l {
		l[i].Payload = slices.Clone(l[i].Payload)
	}
	return l
}

func deepFiles(l []api.File) []api.File {
	l = slices.Clone(l)
	for i := range l {
		l[i].Bytes = slices.Clone(l[i].Bytes)
	}
	return l
}

// changed is custody with something done to it; what it was handed stays.
func changed(c api.Custody, f func(l []api.Bundle) []api.Bundle) api.Custody {
	return api.Custody{List: f(deepList(c.List))}
}

// fine is custody that may be, of all kinds.
func fine(t *testing.T) map[string]api.Custody {
	t.Helper()
	out := map[string]api.Custody{
		"nothing": {}, "an empty list": {List: []api.Bundle{}}, "one": list(example()[0]), "two": list(example()[:2]...), "the chapter's": list(example()...), "unlike": unlike(),
		"many": many(maxBundles), "one fewer": many(maxBundles - 1),
		"the most bytes": holding(t, 29, maxHeld), "one byte fewer": holding(t, 29, maxHeld-1), "the most bytes of the most": holding(t, maxBundles, maxHeld), "one byte fewer of the most": holding(t, maxBundles, maxHeld-1),
		"the greatest": list(whole(6, math.MaxUint32, 400)), "the least": list(api.Bundle{Source: 1, Dest: 1, Seq: 1, Lifetime: 1, HopLimit: 1, Total: 1, Payload: []byte{0}}),
	}
	for what, b := range beside() {
		out[what] = list(example()[0], b, example()[1])
		out[what+" ahead"] = list(b, example()[1], example()[0])
	}
	return out
}

// beside are bundles whose keys part in one number alone from that of the chapter's a.
func beside() map[string]api.Bundle {
	out := map[string]api.Bundle{}
	for _, n := range []int{2, 6} {
		b := example()[0]
		b.Source = n
		out[fmt.Sprint("Source ", n)] = b
	}
	for _, n := range []uint32{4, 257, 1 + 1<<16, math.MaxUint32} {
		b := example()[0]
		b.Seq = n
		out[fmt.Sprint("Seq ", n)] = b
	}
	for _, n := range []int{1, 256, 398} {
		b := example()[0]
		b.Offset, b.Total = n, 400
		out[fmt.Sprint("Offset ", n)] = b
	}
	return out
}

// far are numbers far from all edges; some would be right, if a part of their bits were lost.
func far() []int {
	l := []int{math.MinInt, math.MinInt + 1, math.MaxInt, math.MaxInt - 1, -1 << 32, -1 << 31}
	for _, n := range []int{0, 1, 2, 5, 10, 100} {
		l = append(l, n+1<<32, n-1<<32, n+1<<40)
	}
	return l
}

// wrongBundles are bundles that may not be, each for one reason.
func wrongBundles() map[string]api.Bundle {
	out := map[string]api.Bundle{"zero": {}}
	for what, f := range map[string]func(b *api.Bundle){
		"Source 0": func(b *api.Bundle) { b.Source = 0 }, "Source 7": func(b *api.Bundle) { b.Source = 7 }, "Source far": func(b *api.Bundle) { b.Source = 1 + 1<<32 },
		"Dest 0": func(b *api.Bundle) { b.Dest = 0 }, "Dest 7": func(b *api.Bundle) { b.Dest = 7 }, "Seq 0": func(b *api.Bundle) { b.Seq = 0 },
		"Created": func(b *api.Bundle) { b.Created = -1 }, "Lifetime": func(b *api.Bundle) { b.Lifetime = 0 }, "HopLimit": func(b *api.Bundle) { b.HopLimit = 17 }, "Hops": func(b *api.Bundle) { b.Hops = b.HopLimit + 1 },
		"Priority -1": func(b *api.Bundle) { b.Priority = -1 }, "Priority 3": func(b *api.Bundle) { b.Priority = 3 }, "Offset -1": func(b *api.Bundle) { b.Offset = -1 }, "Offset": func(b *api.Bundle) { b.Offset = b.Total - len(b.Payload) + 1 },
		"Total 0": func(b *api.Bundle) { b.Total = 0 }, "Total 401": func(b *api.Bundle) { b.Total = 401 }, "no Payload": func(b *api.Bundle) { b.Payload = nil }, "a long Payload": func(b *api.Bundle) { b.Payload = fill(1, b.Total+1) }, "a huge Payload": func(b *api.Bundle) { b.Payload = make([]byte, 1<<16) },
	} {
		b := whole(4, 77, 12)
		f(&b)
		out[what] = b
	}
	return out
}

// wrongCustody is custody that may not be, each for one reason.
func wrongCustody(t *testing.T) map[string]api.Custody {
	t.Helper()
	out := map[string]api.Custody{
		"one more": many(maxBundles + 1), "two more": many(maxBundles + 2), "twice as many": many(48), "one byte more": holding(t, 29, maxHeld+1), "one byte more of the most": holding(t, maxBundles, maxHeld+1), "a bundle more than the bytes": holding(t, 30, 30*420),
	}
	for what, b := range wrongBundles() {
		for i := range len(unlike().List) + 1 {
			out[fmt.Sprint(what, " at ", i)] = changed(unlike(), func(l []api.Bundle) []api.Bundle { return slices.Insert(l, i, b) })
		}
		out[what+" alone"] = list(b)
		out[what+" as the last one of the most"] = changed(many(maxBundles-1), func(l []api.Bundle) []api.Bundle { return append(l, b) })
	}
	for i, b := range unlike().List {
		other := whole(b.Source, b.Seq, 3)
		other.Offset, other.Total, other.Dest = b.Offset, 399, 1
		for j := range len(unlike().List) + 1 {
			out[fmt.Sprint("the bundle ", i, " again at ", j)] = changed(unlike(), func(l []api.Bundle) []api.Bundle { return slices.Insert(l, j, b) })
			out[fmt.Sprint("the key of ", i, " at ", j)] = changed(unlike(), func(l []api.Bundle) []api.Bundle { return slices.Insert(l, j, other) })
		}
	}
	return out
}

// wrongSome is as much of that as each call can be asked with, the edges among it.
func wrongSome(t *testing.T) map[string]api.Custody {
	t.Helper()
	out := map[string]api.Custody{}
	l := wrongCustody(t)
	var names []string
	for what := range l {
		names = append(names, what)
	}
	sort.Strings(names)
	for i, what := range names {
		if i%9 == 0 || len(l[what].List) > 20 {
			out[what] = l[what]
		}
	}
	return out
}

// What the chapter says, told once more.

func mayBe(c api.Custody) bool {
	seen := map[string]int{}
	for _, b := range c.List {
		if bundle.Check(b) != api.OK {
			return false
		}
		seen[fmt.Sprint(b.Source, b.Seq, b.Offset)]++
	}
	return len(seen) == len(c.List) && len(c.List) <= maxBundles && sizes(c.List) <= maxHeld
}

// where tells at which place the bundle of a key stands, -1 if there is none.
func where(c api.Custody, k api.Key) int {
	at := -1
	for i, b := range c.List {
		if b.Source == k.Source && b.Seq == k.Seq && b.Offset == k.Offset {
			at = i
		}
	}
	return at
}

func toldInsert(c api.Custody, b api.Bundle) answer {
	if !mayBe(c) {
		return answer{e: api.ErrCustody}
	}
	if bundle.Check(b) != api.OK {
		return answer{e: api.ErrBundle}
	}
	if where(c, api.Key{Source: b.Source, Seq: b.Seq, Offset: b.Offset}) >= 0 {
		return answer{e: api.ErrThere}
	}
	d := list(append(deepList(c.List), deepList([]api.Bundle{b})...)...)
	if !mayBe(d) {
		return answer{e: api.ErrFull}
	}
	return answer{c: d}
}

func toldRemove(c api.Custody, k api.Key) answer {
	if !mayBe(c) {
		return answer{e: api.ErrCustody}
	}
	i := where(c, k)
	if i < 0 {
		return answer{e: api.ErrNone}
	}
	return answer{c: changed(c, func(l []api.Bundle) []api.Bundle { return slices.Delete(l, i, i+1) })}
}

func toldFind(c api.Custody, k api.Key) answer {
	if !mayBe(c) {
		return answer{e: api.ErrCustody}
	}
	i := where(c, k)
	if i < 0 {
		return answer{e: api.ErrNone}
	}
	return answer{b: deep(c).List[i]}
}

func toldExpire(c api.Custody, now int) answer {
	if !mayBe(c) {
		return answer{e: api.ErrCustody}
	}
	var a answer
	for _, b := range deep(c).List {
		if b.Created+b.Lifetime <= now {
			a.gone = append(a.gone, b)
		} else {
			a.c.List = append(a.c.List, b)
		}
	}
	return a
}

func toldOrder(c api.Custody) []api.Key {
	var out []api.Key
	for p := 2; p >= 0 && mayBe(c); p-- {
		for _, b := range c.List {
			if b.Priority == p {
				out = append(out, api.Key{Source: b.Source, Seq: b.Seq, Offset: b.Offset})
			}
		}
	}
	return out
}

func nameOf(b api.Bundle) string {
	return fmt.Sprintf("b/%d/%d/%d", b.Source, b.Seq, b.Offset)
}

func toldSave(c api.Custody) answer {
	if !mayBe(c) {
		return answer{e: api.ErrCustody}
	}
	var a answer
	bytes := map[string][]byte{}
	var names []string
	for i, b := range c.List {
		x, _ := bundle.Encode(b)
		bytes[nameOf(b)] = append([]byte{0, byte(i)}, x...)
		names = append(names, nameOf(b))
	}
	sort.Strings(names)
	for _, n := range names {
		a.l = append(a.l, api.File{Name: n, Bytes: bytes[n]})
	}
	return a
}

// toldLoad puts each bundle at its place, and asks each file by itself.
func toldLoad(l []api.File) answer {
	wrong := answer{e: api.ErrCustody}
	places := map[int]api.Bundle{}
	for i, f := range l {
		if len(f.Bytes) < 2 || i > 0 && l[i-1].Name >= f.Name {
			return wrong
		}
		b, e := bundle.Decode(f.Bytes[2:])
		if e != api.OK || f.Name != nameOf(b) {
			return wrong
		}
		places[int(f.Bytes[0])*256+int(f.Bytes[1])] = b
	}
	var a answer
	for i := range l {
		b, ok := places[i]
		if !ok {
			return wrong
		}
		a.c.List = append(a.c.List, b)
	}
	if !mayBe(a.c) {
		return wrong
	}
	return a
}

// saved is custody as files.
func saved(t *testing.T, c api.Custody) []api.File {
	t.Helper()
	l, e := custody.Save(c)
	if e != api.OK {
		t.Fatalf("Save of %+v: error %d", c, e)
	}
	return l
}

// Bundles by chance, the same at each run.

type dice struct {
	*rand.Rand
}

func chance(seed uint64) dice {
	return dice{rand.New(rand.NewPCG(seed, 17))}
}

// bundle is one of few keys, so that some are there already.
func (d dice) bundle() api.Bundle {
	n := 1 + d.IntN(1+d.IntN(400))
	b := whole(1+d.IntN(6), uint32(1+d.IntN(12)), n)
	if d.IntN(2) == 0 {
		b.Total = n + d.IntN(401-n)
		b.Offset = d.IntN(b.Total - n + 1)
		if d.IntN(2) == 0 {
			b.Offset = min(b.Offset, 1)
		}
	}
	b.Dest, b.Created, b.Lifetime, b.Priority = 1+d.IntN(6), d.IntN(60), 1+d.IntN(90), d.IntN(3)
	return b
}

// key is one that is there, or another.
func (d dice) key(c api.Custody) api.Key {
	if len(c.List) > 0 && d.IntN(3) > 0 {
		b := c.List[d.IntN(len(c.List))]
		return api.Key{Source: b.Source, Seq: b.Seq, Offset: b.Offset}
	}
	return api.Key{Source: d.IntN(8) - 1, Seq: uint32(d.IntN(14)), Offset: d.IntN(5) - 1}
}
