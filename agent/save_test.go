package agent_test

import (
	"bytes"
	"fmt"
	"math"
	"slices"
	"testing"

	"heliograph/agent"
	"heliograph/api"
	"heliograph/bundle"
)

// saved are an agent's files.
func saved(t *testing.T, a api.Agent) []api.File {
	t.Helper()
	l, e := agent.Save(a)
	if e != api.OK {
		t.Fatalf("Save of %+v: error %d", a, e)
	}
	return l
}

// asksLoad holds a Load against what is told once more.
func asksLoad(t *testing.T, what string, node int, l []api.File) answer {
	t.Helper()
	got := of(agent.Load(node, l))
	wants(t, what+": Load", got, toldLoad(node, l))
	return got
}

// refusesLoad asks for ErrAgent, and for nothing beside it.
func refusesLoad(t *testing.T, what string, node int, l []api.File) {
	t.Helper()
	refuses(t, what+": Load", asksLoad(t, what, node, l), api.ErrAgent)
}

// P19.5: names, bytes and order of the files, byte by byte.
func TestSave(t *testing.T) {
	wants(t, "nothing", ofSave(agent.Save(first(2))), answer{f: []api.File{{Name: "a/next", Bytes: []byte{0, 0, 0, 1}}, {Name: "a/parts", Bytes: []byte{0}}, {Name: "a/seen", Bytes: []byte{0}}}})
	b := part(whole(3, 0x01020304, 300), 7, 250)
	a := api.Agent{Node: 2, Next: 0x81726354, Seen: []api.Seen{one(6, 0x0a0b0c0d, 0x0102, 0x3e), one(1, 0x80000001, 3, 0x018d)}, Parts: []api.Bundle{b, part(whole(3, 5, 9), 0, 8)}}
	x, _ := bundle.Encode(b)
	y, _ := bundle.Encode(a.Parts[1])
	if len(x) < 256 || len(y) > 255 {
		t.Fatal(len(x), len(y))
	}
	want := answer{f: []api.File{
		{Name: "a/next", Bytes: []byte{0x81, 0x72, 0x63, 0x54}},
		{Name: "a/parts", Bytes: slices.Concat([]byte{2, 1, byte(len(x) - 256)}, x, []byte{0, byte(len(y))}, y)},
		{Name: "a/seen", Bytes: []byte{2, 6, 0x0a, 0x0b, 0x0c, 0x0d, 0x01, 0x02, 0x00, 0x3e, 1, 0x80, 0, 0, 1, 0, 3, 0x01, 0x8d}},
	}}
	wants(t, "two of each", ofSave(agent.Save(a)), want)
}

// P19.5: agents of all kinds, as files and back.
func TestSaveAndLoad(t *testing.T) {
	for what, a := range fine() {
		got := ofSave(agent.Save(a))
		wants(t, what, got, toldSave(a))
		wants(t, what, asksLoad(t, what, a.Node, got.f), answer{a: a})
		for node := -1; node <= 7; node++ {
			if node != a.Node && len(a.Parts) > 0 {
				refusesLoad(t, fmt.Sprint(what, " at ", node), node, got.f)
			}
		}
	}
}

// P19.5: files of an agent that has no Parts are files of an agent of any node, but of none that is no node.
func TestLoadAtEachNode(t *testing.T) {
	l := saved(t, sight(first(2), rows(5)...))
	for node := 1; node <= 6; node++ {
		wants(t, "of any node", of(agent.Load(node, l)), answer{a: sight(first(node), rows(5)...)})
	}
	for _, node := range append(far(), -1, 0, 7, 8, 255, 256) {
		refusesLoad(t, fmt.Sprint("the node ", node), node, l)
	}
}

// P19.5: the files in another order, with one gone, with one more, doubled, with another name.
func TestLoadOfOtherFiles(t *testing.T) {
	for _, a := range []api.Agent{first(2), busy(), full()} {
		l := saved(t, a)
		for _, o := range [][]int{{0, 2, 1}, {1, 0, 2}, {1, 2, 0}, {2, 0, 1}, {2, 1, 0}, {}, {0}, {1}, {2}, {0, 1}, {0, 2}, {1, 2}, {0, 0, 1, 2}, {0, 1, 1, 2}, {0, 1, 2, 2}, {0, 1, 2, 0}, {0, 0, 0}, {0, 1, 1}, {1, 1, 2}} {
			var m []api.File
			for _, i := range o {
				m = append(m, l[i])
			}
			refusesLoad(t, fmt.Sprint("in the order ", o), 2, m)
		}
		for i := range 4 {
			for _, name := range []string{"", "a", "a/", "a/a", "a/next", "a/o", "a/parts", "a/q", "a/seen", "a/seen/", "b/1/1/0", "x"} {
				m := slices.Insert(deepFiles(l), i, api.File{Name: name, Bytes: []byte{0}})
				refusesLoad(t, "one more, "+name, 2, m)
				if i < 3 && name != l[i].Name {
					m = deepFiles(l)
					m[i].Name = name
					refusesLoad(t, "the name "+name, 2, m)
				}
			}
		}
		for i := range 3 {
			for _, name := range []string{l[i].Name + "s", l[i].Name[:len(l[i].Name)-1], " " + l[i].Name, l[i].Name + "\x00", "A" + l[i].Name[1:], string(bytes.ToUpper([]byte(l[i].Name)))} {
				m := deepFiles(l)
				m[i].Name = name
				refusesLoad(t, "the name "+name, 2, m)
			}
			for j := range 3 {
				m := deepFiles(l)
				m[i].Bytes, m[j].Bytes = m[j].Bytes, m[i].Bytes
				asksLoad(t, "bytes exchanged", 2, m)
			}
		}
	}
	refusesLoad(t, "nothing", 2, nil)
	refusesLoad(t, "empty files", 2, []api.File{{Name: "a/next"}, {Name: "a/parts"}, {Name: "a/seen"}})
}

// P19.5: each file's bytes cut at each place, at both ends, and with one byte more.
func TestLoadOfCutBytes(t *testing.T) {
	small := api.Agent{Node: 2, Next: 3, Seen: busy().Seen[:3], Parts: []api.Bundle{part(whole(3, 5, 9), 0, 8), part(whole(4, 5, 9), 1, 8)}}
	for _, a := range []api.Agent{first(2), small, busy(), full()} {
		l := saved(t, a)
		for i := range l {
			for n := range l[i].Bytes {
				m := deepFiles(l)
				m[i].Bytes = m[i].Bytes[:n]
				refusesLoad(t, fmt.Sprint(l[i].Name, " cut at ", n), 2, m)
				m = deepFiles(l)
				m[i].Bytes = m[i].Bytes[n+1:]
				asksLoad(t, fmt.Sprint(l[i].Name, " from ", n+1), 2, m) // a byte in the midst can be just the count of those behind it
			}
			for _, x := range []byte{0, 1, 255} {
				m := deepFiles(l)
				m[i].Bytes = append(m[i].Bytes, x)
				refusesLoad(t, fmt.Sprint(l[i].Name, " and ", x), 2, m)
				m[i].Bytes = slices.Insert(slices.Clone(l[i].Bytes), 0, x)
				refusesLoad(t, fmt.Sprint(x, " and ", l[i].Name), 2, m)
			}
		}
	}
}

// P19.5: a count that says another number than there are.
func TestLoadOfOtherCounts(t *testing.T) {
	for _, a := range []api.Agent{first(2), busy(), full()} {
		l := saved(t, a)
		for i := 1; i <= 2; i++ {
			for n := range 256 {
				if byte(n) != l[i].Bytes[0] {
					m := deepFiles(l)
					m[i].Bytes[0] = byte(n)
					refusesLoad(t, fmt.Sprint(l[i].Name, " of ", n), 2, m)
				}
			}
		}
	}
	a := busy()
	x, _ := bundle.Encode(a.Parts[0])
	for n := range 1 << 11 {
		m := saved(t, a)
		m[1].Bytes[1], m[1].Bytes[2] = byte(n>>8), byte(n)
		if n != len(x) {
			refusesLoad(t, fmt.Sprint("a bundle of ", n, " bytes"), 2, m)
		}
	}
}

// P19.5: each bit of each file turned: most are no agent's any more, the others another one's.
func TestLoadOfTurnedBits(t *testing.T) {
	small := api.Agent{Node: 2, Next: 3, Seen: busy().Seen[:3], Parts: []api.Bundle{part(whole(3, 5, 9), 0, 8), part(whole(4, 5, 9), 1, 8)}}
	l := saved(t, small)
	did := map[api.Errno]int{}
	for i := range l {
		for bit := range 8 * len(l[i].Bytes) {
			m := deepFiles(l)
			m[i].Bytes[bit/8] ^= 128 >> (bit % 8)
			got := asksLoad(t, fmt.Sprint(l[i].Name, " with the bit ", bit), 2, m)
			did[got.e]++
			if agent.Same(got.a, small) {
				t.Errorf("%s with the bit %d is the same agent", l[i].Name, bit)
			}
		}
	}
	if did[api.OK] < 50 || did[api.ErrAgent] < 50 {
		t.Error(did)
	}
}

// sayable answers whether the bytes of what was seen have room for each number of it.
func sayable(a api.Agent) bool {
	for _, s := range a.Seen {
		if s.Key.Source != int(uint8(s.Key.Source)) || s.Key.Offset != int(uint16(s.Key.Offset)) || s.N != int(uint16(s.N)) {
			return false
		}
	}
	return true
}

// P19.5: the files of agents that may not be, as far as bytes can say them.
func TestLoadOfWhatMayNotBe(t *testing.T) {
	for what, a := range wrongAgents() {
		if sayable(a) {
			refusesLoad(t, what, a.Node, written(a))
		}
	}
	zero := saved(t, busy())
	zero[0].Bytes = make([]byte, 4)
	refusesLoad(t, "Next 0", 2, zero)
}

// P19.5: a file that is far too long, or far too many of them.
func TestLoadOfTooMuch(t *testing.T) {
	for i := range 3 {
		for _, n := range []int{4096, 4097, 1 << 20} {
			l := saved(t, busy())
			l[i].Bytes = append(l[i].Bytes, make([]byte, n-len(l[i].Bytes))...)
			refusesLoad(t, fmt.Sprint(l[i].Name, " with ", n), 2, l)
		}
	}
	many := saved(t, busy())
	for i := range 100 {
		many = append(many, api.File{Name: fmt.Sprintf("b%03d", i)})
		if i%33 == 0 {
			refusesLoad(t, fmt.Sprint(len(many), " files"), 2, many)
		}
	}
}

// P19.5: the greatest agent's files are files: the longest of them has room.
func TestTheGreatestFiles(t *testing.T) {
	a := api.Agent{Node: 2, Next: math.MaxUint32, Seen: rows(maxSeen)}
	for i := range maxParts {
		b := api.Bundle{Source: 3, Dest: 2, Seq: math.MaxUint32 - uint32(i), Created: maxTick, Lifetime: maxTick, HopLimit: 16, Hops: 16, Priority: 2, Offset: 1, Total: most, Payload: fill(i, most-1)}
		a.Parts = append(a.Parts, b)
	}
	l := saved(t, a)
	wants(t, "the greatest", asksLoad(t, "the greatest", 2, l), answer{a: a})
	for _, f := range l {
		if len(f.Bytes) > api.MaxFile {
			t.Errorf("%s has %d bytes", f.Name, len(f.Bytes))
		}
	}
}
