package agent_test

import (
	"fmt"
	"math"
	"math/rand/v2"
	"reflect"
	"slices"
	"testing"

	"heliograph/agent"
	"heliograph/api"
	"heliograph/bundle"
)

const (
	maxSeen  = 64
	maxParts = 7
	most     = 400
	maxTick  = 1 << 20
)

// answer is what a call answers.
type answer struct {
	a api.Agent
	l []api.Bundle
	v api.Verdict
	f []api.File
	e api.Errno
}

func of(a api.Agent, e api.Errno) answer {
	return answer{a: a, e: e}
}

func ofMake(a api.Agent, l []api.Bundle, e api.Errno) answer {
	return answer{a: a, l: l, e: e}
}

func ofArrive(a api.Agent, v api.Verdict, e api.Errno) answer {
	return answer{a: a, v: v, e: e}
}

func ofSave(f []api.File, e api.Errno) answer {
	return answer{f: f, e: e}
}

// text tells all fields; nil and empty lists are one in it.
func text(x any) string {
	return fmt.Sprintf("%+v", x)
}

// wants asks for just that answer; text is slow, and only asked where lists may be nil in one and empty in the other.
func wants(t *testing.T, what string, got, want answer) {
	t.Helper()
	if !reflect.DeepEqual(got, want) && text(got) != text(want) {
		t.Errorf("%s:\n answered %+v\n want     %+v", what, got, want)
	}
}

// refuses asks for an error, and zeros beside it.
func refuses(t *testing.T, what string, got answer, e api.Errno) {
	t.Helper()
	wants(t, what, got, answer{e: e})
}

// fill is n bytes, others for each seed.
func fill(seed, n int) []byte {
	b := make([]byte, n)
	for i := range b {
		b[i] = byte(seed*31 + i*7 + i/256 + 1)
	}
	return b
}

// whole is a bundle of n bytes for the node 2, no two of its numbers alike.
func whole(source int, seq uint32, n int) api.Bundle {
	return api.Bundle{Source: source, Dest: 2, Seq: seq, Created: 1000 + 10*source, Lifetime: 300 + int(seq%7), HopLimit: 15, Hops: 7, Priority: 1, Total: n, Payload: fill(source+int(seq), n)}
}

// part is what a whole bundle has from at on, n bytes of it.
func part(b api.Bundle, at, n int) api.Bundle {
	b.Offset, b.Payload = at, slices.Clone(b.Payload[at:at+n])
	return b
}

// to is the bundle for another node.
func to(dest int, b api.Bundle) api.Bundle {
	b.Dest = dest
	return b
}

// hopped is the bundle with other Hops.
func hopped(hops int, b api.Bundle) api.Bundle {
	b.Hops = hops
	return b
}

// changed is a bundle to which something was done; what it was handed stays.
func changed(b api.Bundle, f func(b *api.Bundle)) api.Bundle {
	b.Payload = slices.Clone(b.Payload)
	f(&b)
	return b
}

func one(source int, seq uint32, offset, n int) api.Seen {
	return api.Seen{Key: api.Key{Source: source, Seq: seq, Offset: offset}, N: n}
}

// first is an agent that has made and taken in nothing.
func first(node int) api.Agent {
	return api.Agent{Node: node, Next: 1}
}

// busy is the agent of the node 2 with pieces of three bundles in turns; some of what it has seen parts in one number alone.
func busy() api.Agent {
	x, y, z := whole(5, 70000, 390), whole(5, 70001, 300), whole(4, 70000, 200)
	return api.Agent{
		Node: 2, Next: 90000,
		Seen:  []api.Seen{one(5, 70000, 30, 41), one(5, 70001, 30, 41), one(4, 70000, 30, 41), one(5, 70000, 31, 41), one(5, 70000, 30, 42), one(6, 9, 0, most), one(1, math.MaxUint32, most-1, 1)},
		Parts: []api.Bundle{part(x, 30, 41), part(y, 0, 50), hopped(9, part(x, 71, 20)), part(z, 150, 50), hopped(4, part(y, 40, 30))},
	}
}

// parted is the agent with these as Parts.
func parted(a api.Agent, l ...api.Bundle) api.Agent {
	a.Parts = l
	return a
}

// sight is the agent with these as Seen.
func sight(a api.Agent, l ...api.Seen) api.Agent {
	a.Seen = l
	return a
}

// rows are n bundles or pieces that were seen, many alike but for one number.
func rows(n int) []api.Seen {
	var out []api.Seen
	for i := range n {
		out = append(out, one(1+i%3, uint32(8+i/3%4), 90*(i/12%4), 5+i/48))
	}
	return out
}

// single are n pieces, each of a bundle of its own.
func single(n int) []api.Bundle {
	var out []api.Bundle
	for i := range n {
		out = append(out, part(whole(1+i%6, uint32(500+i/6), 200+i), 10*i, 20+i))
	}
	return out
}

// cut are all pieces of n bytes of a bundle.
func cut(b api.Bundle, n int) []api.Bundle {
	var out []api.Bundle
	for at := 0; at < b.Total; at += n {
		out = append(out, part(b, at, min(n, b.Total-at)))
	}
	return out
}

func deepList(l []api.Bundle) []api.Bundle {
	l = slices.Clone(l)
	for i := range l {
		l[i].Payload = slices.Clone(l[i].Payload)
	}
	return l
}

func deep(a api.Agent) api.Agent {
	a.Seen, a.Parts = slices.Clone(a.Seen), deepList(a.Parts)
	return a
}

func deepFiles(l []api.File) []api.File {
	l = slices.Clone(l)
	for i := range l {
		l[i].Bytes = slices.Clone(l[i].Bytes)
	}
	return l
}

// full is an agent with as much as can be.
func full() api.Agent {
	l := cut(whole(6, math.MaxUint32, most), 55)[1:]
	for i := range l {
		l[i].Hops = 2 * i
	}
	return api.Agent{Node: 2, Next: math.MaxUint32, Seen: rows(maxSeen), Parts: l}
}

// fine are agents that may be, of all kinds.
func fine() map[string]api.Agent {
	b := whole(5, 70000, most)
	out := map[string]api.Agent{
		"empty lists": {Node: 2, Next: 1, Seen: []api.Seen{}, Parts: []api.Bundle{}}, "busy": busy(), "full": full(), "the greatest Next": {Node: 6, Next: math.MaxUint32},
		"one fewer Seen": sight(busy(), rows(maxSeen-1)...), "the most Seen": sight(first(3), rows(maxSeen)...), "the most of many": parted(busy(), single(maxParts)...), "one fewer Part": parted(busy(), single(maxParts-1)...),
		"Seen at its edges":  sight(first(1), one(1, 1, 0, 1), one(6, math.MaxUint32, 0, most), one(6, 1, most-1, 1), one(1, 256, 1, most-1), one(6, 1, 200, 200)),
		"over one another":   parted(first(2), part(b, 10, 50), part(b, 40, 60), part(b, 20, 10)),
		"the same twice":     parted(first(2), part(b, 10, 50), part(b, 10, 50), hopped(0, part(b, 10, 50))),
		"all but the first":  parted(first(2), part(b, 1, most-1)),
		"all but the last":   parted(first(2), part(b, 0, 200), part(b, 200, most-201)),
		"all but one byte":   parted(first(2), part(b, 0, 200), part(b, 201, 199), part(b, 100, 100)),
		"of its own":         parted(first(2), part(whole(2, 1, 9), 3, 2)),
		"one Seq, many ways": parted(first(2), part(whole(1, 7, 30), 0, 9), part(whole(3, 7, 31), 0, 9), part(whole(4, 7, 32), 0, 9)),
		"expired long ago":   parted(first(2), changed(part(b, 3, 3), func(b *api.Bundle) { b.Created, b.Lifetime = 0, 1 })),
	}
	for node := 1; node <= 6; node++ {
		out[fmt.Sprint("new at ", node)] = first(node)
		l := single(3)
		for i := range l {
			l[i].Dest = node
		}
		out[fmt.Sprint("pieces at ", node)] = api.Agent{Node: node, Next: uint32(node), Seen: rows(node), Parts: l}
	}
	return out
}

// far are numbers far from all edges; some would be right, if a part of their bits were lost.
func far() []int {
	l := []int{math.MinInt, math.MinInt + 1, math.MaxInt, math.MaxInt - 1, -1 << 32, -1 << 31}
	for _, n := range []int{0, 1, 2, 5, 10, 100} {
		l = append(l, n+1<<32, n-1<<32, n+1<<40, n+1<<16)
	}
	return l
}

// wrongBundles are pieces that may not be, each for one reason.
func wrongBundles() map[string]api.Bundle {
	out := map[string]api.Bundle{"zero": {}}
	for what, f := range map[string]func(b *api.Bundle){
		"Source 0": func(b *api.Bundle) { b.Source = 0 }, "Source 7": func(b *api.Bundle) { b.Source = 7 }, "Source far": func(b *api.Bundle) { b.Source += 1 << 32 },
		"Dest 0": func(b *api.Bundle) { b.Dest = 0 }, "Dest 7": func(b *api.Bundle) { b.Dest = 7 }, "Dest far": func(b *api.Bundle) { b.Dest += 1 << 32 }, "Seq 0": func(b *api.Bundle) { b.Seq = 0 },
		"Created -1": func(b *api.Bundle) { b.Created = -1 }, "Created": func(b *api.Bundle) { b.Created = maxTick + 1 }, "Lifetime 0": func(b *api.Bundle) { b.Lifetime = 0 }, "Lifetime": func(b *api.Bundle) { b.Lifetime = maxTick + 1 },
		"HopLimit 0": func(b *api.Bundle) { b.HopLimit, b.Hops = 0, 0 }, "HopLimit 17": func(b *api.Bundle) { b.HopLimit = 17 }, "Hops -1": func(b *api.Bundle) { b.Hops = -1 }, "Hops": func(b *api.Bundle) { b.Hops = b.HopLimit + 1 },
		"Priority -1": func(b *api.Bundle) { b.Priority = -1 }, "Priority 3": func(b *api.Bundle) { b.Priority = 3 }, "Offset -1": func(b *api.Bundle) { b.Offset = -1 }, "Offset": func(b *api.Bundle) { b.Offset = b.Total - len(b.Payload) + 1 }, "Offset far": func(b *api.Bundle) { b.Offset = math.MaxInt }, "Offset further": func(b *api.Bundle) { b.Offset = math.MinInt },
		"Total 0": func(b *api.Bundle) { b.Total = 0 }, "Total 401": func(b *api.Bundle) { b.Total = most + 1 }, "Total far": func(b *api.Bundle) { b.Total = math.MaxInt }, "Total further": func(b *api.Bundle) { b.Total = math.MinInt },
		"no Payload": func(b *api.Bundle) { b.Payload = nil }, "an empty Payload": func(b *api.Bundle) { b.Payload = []byte{} }, "a long Payload": func(b *api.Bundle) { b.Payload = fill(1, b.Total-b.Offset+1) }, "a huge Payload": func(b *api.Bundle) { b.Payload = make([]byte, 1<<16) },
	} {
		out[what] = changed(part(whole(3, 77, 120), 40, 30), f)
	}
	return out
}

// others are what makes a piece one that does not go together with the pieces of its id, by one field each.
func others() map[string]func(b *api.Bundle) {
	return map[string]func(b *api.Bundle){
		"Created": func(b *api.Bundle) { b.Created++ }, "Lifetime": func(b *api.Bundle) { b.Lifetime-- }, "HopLimit": func(b *api.Bundle) { b.HopLimit-- }, "Priority": func(b *api.Bundle) { b.Priority-- }, "Total": func(b *api.Bundle) { b.Total++ },
		"the first byte": func(b *api.Bundle) { b.Payload[0]++ }, "the last byte": func(b *api.Bundle) { b.Payload[len(b.Payload)-1] ^= 128 }, "a byte in the midst": func(b *api.Bundle) { b.Payload[len(b.Payload)/2]-- },
	}
}

// wrongSeen are what may not be among Seen, each for one reason.
func wrongSeen() map[string]api.Seen {
	out := map[string]api.Seen{
		"zero": {}, "Source 0": one(0, 3, 4, 5), "Source 7": one(7, 3, 4, 5), "Source -1": one(-1, 3, 4, 5), "Seq 0": one(2, 0, 4, 5), "Offset -1": one(2, 3, -1, 5), "N 0": one(2, 3, 4, 0), "N -1": one(2, 3, 4, -1),
		"one more byte": one(2, 3, 200, 201), "one more from 0 on": one(2, 3, 0, most+1), "one more at the end": one(2, 3, most, 1), "none at the end": one(2, 3, most, 0), "behind the end": one(2, 3, most+1, 1), "behind the end, back": one(2, 3, most+1, -1), "ahead of 0": one(2, 3, -5, 10),
		"together past all": one(2, 3, math.MaxInt, 1), "together round": one(2, 3, math.MaxInt, math.MaxInt), "round to 1": one(2, 3, math.MinInt, math.MaxInt), "both round": one(2, 3, math.MinInt, math.MinInt),
	}
	for _, n := range far() {
		out[fmt.Sprint("Source ", n)] = one(n, 3, 4, 5)
		out[fmt.Sprint("Offset ", n)] = one(2, 3, n, 5)
		out[fmt.Sprint("N ", n)] = one(2, 3, 4, n)
	}
	return out
}

// inserted is the agent with a bundle more among Parts.
func inserted(a api.Agent, i int, b api.Bundle) api.Agent {
	a = deep(a)
	a.Parts = slices.Insert(a.Parts, i, b)
	return a
}

// spied is the agent with one more among Seen.
func spied(a api.Agent, i int, s api.Seen) api.Agent {
	a = deep(a)
	a.Seen = slices.Insert(a.Seen, i, s)
	return a
}

// wrongAgents are agents that may not be, each for one reason.
func wrongAgents() map[string]api.Agent {
	out := map[string]api.Agent{"zero": {}, "Next 0": {Node: 2}, "busy with Next 0": {Node: 2, Seen: busy().Seen, Parts: busy().Parts}}
	for _, node := range append(far(), 0, -1, 7, 8, 255) {
		out[fmt.Sprint("Node ", node)] = first(node)
	}
	for what, s := range wrongSeen() {
		for i := range len(busy().Seen) + 1 {
			out[fmt.Sprint(what, " at ", i, " of Seen")] = spied(busy(), i, s)
		}
		out[what+" alone"] = sight(first(4), s)
	}
	for i, s := range busy().Seen {
		for j := range len(busy().Seen) + 1 {
			out[fmt.Sprint("the one ", i, " of Seen again at ", j)] = spied(busy(), j, s)
		}
	}
	for _, n := range []int{maxSeen + 1, maxSeen + 2, 96} {
		out[fmt.Sprint(n, " of Seen")] = sight(busy(), rows(n)...)
	}
	for what, b := range wrongBundles() {
		for _, i := range []int{0, 2, 5} {
			out[fmt.Sprint(what, " at ", i, " of Parts")] = inserted(busy(), i, b)
		}
		out[what+", the only one"] = parted(first(2), b)
	}
	more := map[string]api.Bundle{"a whole one": whole(3, 5, 20), "a whole one of one byte": whole(3, 5, 1), "for the node 1": to(1, part(whole(3, 5, 20), 2, 3)), "for the node 3": to(3, part(whole(3, 5, 20), 2, 3)), "a whole one of an id that is there": whole(4, 70000, 200), "what is missing": part(whole(4, 70000, 200), 0, 150), "more than what is missing": part(whole(4, 70000, 200), 0, 199)}
	for what, f := range others() {
		more[what] = changed(part(whole(5, 70000, 390), 60, 20), f)
	}
	for what, b := range more {
		for i := range len(busy().Parts) + 1 {
			out[fmt.Sprint(what, " at ", i, " of Parts")] = inserted(busy(), i, b)
		}
	}
	for _, n := range []int{maxParts + 1, maxParts + 2, 14} {
		out[fmt.Sprint(n, " of Parts")] = parted(busy(), single(n)...)
		out[fmt.Sprint(n, " of one id")] = parted(first(2), cut(whole(3, 9, 390), 20)[:n]...)
	}
	out["nothing missing, last"] = parted(busy(), append(single(3), cut(whole(3, 9, 40), 11)...)...)
	out["nothing missing, first"] = parted(busy(), append(cut(whole(3, 9, 40), 11), single(3)...)...)
	return out
}

// some are as many of them as each call can be asked with, in order.
func some() []api.Agent {
	l := wrongAgents()
	var out []api.Agent
	for i, what := range sorted(l) {
		if i%5 == 0 {
			out = append(out, l[what])
		}
	}
	return out
}

func sorted[T any](m map[string]T) []string {
	var out []string
	for k := range m {
		out = append(out, k)
	}
	slices.Sort(out)
	return out
}

// arrives is what becomes of a bundle, where an agent that may be is asked.
func arrives(t *testing.T, a api.Agent, b api.Bundle, now int) (api.Agent, api.Verdict) {
	t.Helper()
	got := ofArrive(agent.Arrive(a, b, now))
	wants(t, "Arrive", got, toldArrive(a, b, now))
	return got.a, got.v
}

// What the chapter says, told once more.

func mayBe(a api.Agent) bool {
	if a.Node < 1 || a.Node > 6 || a.Next < 1 || len(a.Seen) > maxSeen || len(a.Parts) > maxParts {
		return false
	}
	once := map[api.Seen]int{}
	for _, s := range a.Seen {
		ends := s.Key.Offset + s.N
		if s.Key.Source < 1 || s.Key.Source > 6 || s.Key.Seq < 1 || s.Key.Offset < 0 || s.Key.Offset > most || s.N < 1 || s.N > most || ends > most {
			return false
		}
		once[s]++
	}
	for _, b := range a.Parts {
		l := oneId(a.Parts, b)
		if b.Dest != a.Node || !together(l) || lacks(l) == 0 {
			return false
		}
	}
	return len(once) == len(a.Seen)
}

// oneId are the ones of that bundle's id.
func oneId(l []api.Bundle, b api.Bundle) []api.Bundle {
	var out []api.Bundle
	for _, x := range l {
		if x.Source == b.Source && x.Seq == b.Seq {
			out = append(out, x)
		}
	}
	return out
}

// together holds each two of a list against each other.
func together(l []api.Bundle) bool {
	for _, a := range l {
		for _, b := range l {
			x, y := a, b
			x.Offset, x.Payload, x.Hops = 0, nil, 0
			y.Offset, y.Payload, y.Hops = 0, nil, 0
			if bundle.Check(a) != api.OK || !reflect.DeepEqual(x, y) {
				return false
			}
			for i, x := range a.Payload {
				j := a.Offset + i - b.Offset
				if j >= 0 && j < len(b.Payload) && b.Payload[j] != x {
					return false
				}
			}
		}
	}
	return true
}

// laid are the bytes that a list has, by their places.
func laid(l []api.Bundle) map[int]byte {
	out := map[int]byte{}
	for _, b := range l {
		for i, x := range b.Payload {
			out[b.Offset+i] = x
		}
	}
	return out
}

// lacks tells how many bytes are missing of a list that has one id.
func lacks(l []api.Bundle) int {
	return l[0].Total - len(laid(l))
}

func toldMake(a api.Agent, w api.Wish, payload []byte, now int) answer {
	b := api.Bundle{Source: a.Node, Dest: w.Dest, Seq: a.Next, Created: now, Lifetime: w.Lifetime, HopLimit: w.HopLimit, Priority: w.Priority, Total: len(payload), Payload: payload}
	switch {
	case !mayBe(a):
		return answer{e: api.ErrAgent}
	case w.Dest < 1, w.Dest > 6, w.Dest == a.Node, w.Part < 1, w.Part > most, bundle.Check(b) != api.OK:
		return answer{e: api.ErrArg}
	case a.Next == 0xffffffff:
		return answer{e: api.ErrFull}
	}
	out := answer{a: deep(a), l: cut(b, w.Part)}
	out.a.Next++
	return out
}

// applies tells of each verdict whether it could be told, whatever stands ahead of it.
func applies(a api.Agent, b api.Bundle, now int) (out [10]bool) {
	s := one(b.Source, b.Seq, b.Offset, len(b.Payload))
	mine, piece := b.Dest == a.Node, len(b.Payload) != b.Total
	with := append(oneId(a.Parts, b), b)
	out[api.VerdictBad] = bundle.Check(b) != api.OK
	out[api.VerdictOld] = b.Created+b.Lifetime <= now
	out[api.VerdictAgain] = slices.Index(a.Seen, s) >= 0
	out[api.VerdictOwn] = b.Source == a.Node
	out[api.VerdictHops] = !mine && b.Hops == b.HopLimit
	out[api.VerdictKeep] = !mine
	out[api.VerdictFull] = piece && mine && len(a.Parts) == maxParts || !together(with)
	out[api.VerdictPart] = piece && mine && lacks(with) > 0
	out[api.VerdictHand] = !piece || lacks(with) == 0
	return out
}

func toldArrive(a api.Agent, b api.Bundle, now int) answer {
	if !mayBe(a) {
		return answer{e: api.ErrAgent}
	}
	out := answer{a: deep(a)}
	could := applies(a, b, now)
	out.v.Kind = slices.Index(could[:], true)
	b = changed(b, func(*api.Bundle) {})
	switch out.v.Kind {
	case api.VerdictKeep:
		out.v.Bundle = hopped(b.Hops+1, b)
	case api.VerdictPart:
		out.a.Parts = append(out.a.Parts, b)
	case api.VerdictHand:
		out.v.Bundle = handed(a, b)
		out.a.Parts = slices.DeleteFunc(out.a.Parts, func(x api.Bundle) bool { return x.Source == b.Source && x.Seq == b.Seq })
	default:
		return out
	}
	out.a.Seen = append(out.a.Seen, one(b.Source, b.Seq, b.Offset, len(b.Payload)))
	if len(out.a.Seen) == maxSeen+1 {
		out.a.Seen = out.a.Seen[1:]
	}
	return out
}

// handed is the whole bundle of which b is the last piece, or b.
func handed(a api.Agent, b api.Bundle) api.Bundle {
	if len(b.Payload) == b.Total {
		return b
	}
	l := append(oneId(a.Parts, b), b)
	there := laid(l)
	out := b
	out.Offset, out.Payload = 0, nil
	for at := range b.Total {
		out.Payload = append(out.Payload, there[at])
	}
	for _, x := range l {
		out.Hops = max(out.Hops, x.Hops)
	}
	return out
}

func toldExpire(a api.Agent, now int) answer {
	if !mayBe(a) {
		return answer{e: api.ErrAgent}
	}
	if now < 0 || now > maxTick {
		return answer{e: api.ErrArg}
	}
	a = deep(a)
	a.Parts = slices.DeleteFunc(a.Parts, func(b api.Bundle) bool { return now >= b.Created+b.Lifetime })
	return answer{a: a}
}

// written are the files of an agent, byte by byte, whether it may be or not.
func written(a api.Agent) []api.File {
	next := []byte{byte(a.Next >> 24), byte(a.Next >> 16), byte(a.Next >> 8), byte(a.Next)}
	parts := []byte{byte(len(a.Parts))}
	for _, b := range a.Parts {
		x, _ := bundle.Encode(b)
		parts = append(parts, byte(len(x)>>8), byte(len(x)))
		parts = append(parts, x...)
	}
	seen := []byte{byte(len(a.Seen))}
	for _, s := range a.Seen {
		k := s.Key
		seen = append(seen, byte(k.Source), byte(k.Seq>>24), byte(k.Seq>>16), byte(k.Seq>>8), byte(k.Seq), byte(k.Offset>>8), byte(k.Offset), byte(s.N>>8), byte(s.N))
	}
	return []api.File{{Name: "a/next", Bytes: next}, {Name: "a/parts", Bytes: parts}, {Name: "a/seen", Bytes: seen}}
}

func toldSave(a api.Agent) answer {
	if !mayBe(a) {
		return answer{e: api.ErrAgent}
	}
	return answer{f: written(a)}
}

// toldLoad takes the bytes apart from the front, and asks for each row of them whether it is there.
func toldLoad(node int, l []api.File) answer {
	wrong := answer{e: api.ErrAgent}
	if len(l) != 3 || l[0].Name != "a/next" || l[1].Name != "a/parts" || l[2].Name != "a/seen" {
		return wrong
	}
	next, parts, seen := l[0].Bytes, l[1].Bytes, l[2].Bytes
	if len(next) != 4 || len(parts) < 1 || len(seen) < 1 || len(seen) != 1+9*int(seen[0]) {
		return wrong
	}
	a := api.Agent{Node: node, Next: uint32(next[0])<<24 + uint32(next[1])<<16 + uint32(next[2])<<8 + uint32(next[3])}
	for rest := parts[1:]; len(rest) > 0; {
		if len(rest) < 2 || len(rest)-2 < int(rest[0])*256+int(rest[1]) {
			return wrong
		}
		n := int(rest[0])*256 + int(rest[1])
		b, e := bundle.Decode(rest[2 : 2+n])
		if e != api.OK {
			return wrong
		}
		a.Parts, rest = append(a.Parts, b), rest[2+n:]
	}
	for rest := seen[1:]; len(rest) > 0; rest = rest[9:] {
		seq := uint32(rest[1])<<24 + uint32(rest[2])<<16 + uint32(rest[3])<<8 + uint32(rest[4])
		a.Seen = append(a.Seen, one(int(rest[0]), seq, int(rest[5])*256+int(rest[6]), int(rest[7])*256+int(rest[8])))
	}
	if len(a.Parts) != int(parts[0]) || !mayBe(a) {
		return wrong
	}
	return answer{a: a}
}

// Agents and bundles by chance, the same at each run.

type dice struct {
	*rand.Rand
}

func chance(seed uint64) dice {
	return dice{rand.New(rand.NewPCG(seed, 19))}
}

// shuffled is a list in some order.
func (d dice) shuffled(l []api.Bundle) []api.Bundle {
	l = deepList(l)
	d.Shuffle(len(l), func(i, j int) { l[i], l[j] = l[j], l[i] })
	return l
}

// piece is some piece of a whole bundle, or all of it, with Hops of its own.
func (d dice) piece(b api.Bundle) api.Bundle {
	n := 1 + d.IntN(b.Total)
	return hopped(d.IntN(b.HopLimit+1), part(b, d.IntN(b.Total-n+1), n))
}
