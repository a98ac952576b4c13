package files_test

import (
	"fmt"
	"maps"
	"slices"
	"strings"
	"testing"

	"heliograph/api"
	"heliograph/files"
)

// model is files as a map: the chapter's operations, told once more.
type model map[string]string

func modelOf(f api.Files) model {
	m := model{}
	for _, x := range f.List {
		m[x.Name] = string(x.Bytes)
	}
	return m
}

func (m model) files() api.Files {
	var f api.Files
	for _, s := range slices.Sorted(maps.Keys(m)) {
		f.List = append(f.List, file(s, []byte(m[s])...))
	}
	return f
}

func (m model) cost() int {
	n := 0
	for s, b := range m {
		n += len(s + b)
	}
	return n
}

func named(s string) bool {
	return s != "" && len(s) < 25
}

// after is what comes of one operation, as a new model.
func (m model) after(o api.FileOp) (model, api.Errno) {
	old, there := m[o.Name]
	n := maps.Clone(m)
	switch {
	case o.Kind < 1 || o.Kind > 4 || !named(o.Name) || o.Kind == 3 && !named(o.New):
		return nil, api.ErrArg
	case o.Kind != 1 && !there:
		return nil, api.ErrNone
	case o.Kind == 2 && (o.At < 0 || o.At > len(old)):
		return nil, api.ErrArg
	case o.Kind == 1:
		n[o.Name] = string(o.Bytes)
	case o.Kind == 2:
		b := old[:o.At] + string(o.Bytes)
		if len(b) < len(old) {
			b += old[len(b):]
		}
		n[o.Name] = b
	case o.Kind == 3:
		delete(n, o.Name)
		n[o.New] = old
	case o.Kind == 4:
		delete(n, o.Name)
	}
	if o.Kind < 3 && len(n[o.Name]) > 4096 {
		return nil, api.ErrLong
	}
	if len(n) > 64 || n.cost() > 32768 {
		return nil, api.ErrFull
	}
	return n, api.OK
}

func (m model) afterAll(l []api.FileOp) (model, api.Errno) {
	n := maps.Clone(m)
	for _, o := range l {
		next, e := n.after(o)
		if e != api.OK {
			return nil, e
		}
		n = next
	}
	return n, api.OK
}

// thrown is any operation: mostly one that can be done.
func thrown(d *dice, names []string) api.FileOp {
	pick := func() string {
		if d.below(60) == 0 {
			return []string{"", longest() + "z", longest()}[d.below(3)]
		}
		return names[d.below(len(names))]
	}
	o := api.FileOp{Kind: []int{1, 1, 1, 2, 2, 2, 3, 4}[d.below(8)], Name: pick()}
	if d.below(80) == 0 {
		o.Kind = d.below(9) - 2
	}
	if o.Kind == 3 || d.below(80) == 0 {
		o.New = pick()
	}
	if o.Kind == 2 {
		o.At = d.below(d.below(5000)+2) - d.below(2)
	}
	if o.Kind < 3 {
		o.Bytes = fill(d.below(999), d.below([]int{4, 40, 400, 4200}[d.below(4)]+1))
	}
	return o
}

// P5.2, P5.6: long rows of operations, one by one and at once, held against the model; what Apply answers are files, and come back from their bytes.
func TestRowsOfOperations(t *testing.T) {
	counts := map[api.Errno]int{}
	for seed := range 60 {
		d := dice(seed)
		names := somewhere(&d)
		f := []api.Files{{}, many(62, 0), many(8, 4090), many(60, 520)}[seed%4]
		m := modelOf(f)
		for i := range 1 + len(names)/9 {
			names = append(names, name(i, 3))
		}
		for step := range 60 {
			var l []api.FileOp
			for range d.below(5) + d.below(2)*d.below(12) {
				l = append(l, thrown(&d, names))
			}
			what := fmt.Sprintf("seed %d, step %d", seed, step)
			next, want := m.afterAll(l)
			counts[want]++
			if want != api.OK {
				refuses(t, what, f, want, l...)
				continue
			}
			f, m = turned(t, what, f, l, next), next
		}
	}
	for _, e := range []api.Errno{api.OK, api.ErrArg, api.ErrNone, api.ErrLong, api.ErrFull} {
		if counts[e] < 20 {
			t.Errorf("error %d was met only %d times", e, counts[e])
		}
	}
}

// somewhere are some names; of a few there are collisions, of many the files become too many.
func somewhere(d *dice) []string {
	var names []string
	for range []int{3, 8, 80, 150}[d.below(4)] {
		names = append(names, strings.Repeat(string([]byte{byte(d.below(256))}), 1+d.below(4)))
	}
	return names
}

// turned answers what comes of the operations at once, having held it against the model, against all of them one by one, and against its bytes.
func turned(t *testing.T, what string, f api.Files, l []api.FileOp, want model) api.Files {
	t.Helper()
	got, e := files.Apply(f, l...)
	if e != api.OK || !alike(got.List, want.files().List) || files.Check(got) != api.OK {
		t.Fatalf("%s: error %d: %s, want %s", what, e, short(got), short(want.files()))
	}
	if files.Cost(got) != want.cost() {
		t.Fatalf("%s: Cost %d, want %d", what, files.Cost(got), want.cost())
	}
	one := f
	for _, o := range l {
		next, e := files.Apply(one, o)
		if e != api.OK {
			t.Fatalf("%s: one by one: error %d", what, e)
		}
		others(t, what, one, next, o)
		one = next
	}
	if !files.Same(one, got) {
		t.Fatalf("%s: one by one comes %s, at once %s", what, short(one), short(got))
	}
	b, e := files.Encode(got)
	back, no := files.Decode(b)
	if e != api.OK || no != api.OK || !files.Same(back, got) {
		t.Fatalf("%s: the bytes: errors %d, %d", what, e, no)
	}
	return got
}

// others holds what an operation does not speak of against what it was (P5.6).
func others(t *testing.T, what string, before, after api.Files, o api.FileOp) {
	t.Helper()
	spoken := func(x api.File) bool { return x.Name == o.Name || o.Kind == api.FileName && x.Name == o.New }
	a := slices.DeleteFunc(deep(before).List, spoken)
	b := slices.DeleteFunc(deep(after).List, spoken)
	if !alike(a, b) {
		t.Fatalf("%s: Kind %d of %q has changed other files", what, o.Kind, o.Name)
	}
}

// P5.5, P5.6: the same operations come back from their bytes, and do the same.
func TestRowsOfOperationsAsBytes(t *testing.T) {
	taken := 0
	for seed := range 3000 {
		d := dice(seed)
		names := somewhere(&d)
		var l []api.FileOp
		for range d.below(8) {
			l = append(l, thrown(&d, names))
		}
		b, e := files.EncodeOps(l)
		if want := slices.IndexFunc(l, func(o api.FileOp) bool { return !said(o) }) < 0; want != (e == api.OK) {
			t.Fatalf("seed %d: error %d, want none: %t", seed, e, want)
		}
		if e != api.OK {
			continue
		}
		taken++
		back, e := files.DecodeOps(b)
		if e != api.OK || !alikeOps(back, l) {
			t.Fatalf("seed %d: error %d", seed, e)
		}
		f, one := files.Apply(api.Files{}, l...)
		g, two := files.Apply(api.Files{}, back...)
		if one != two || !files.Same(f, g) {
			t.Fatalf("seed %d: they do something else", seed)
		}
	}
	if taken < 500 {
		t.Errorf("only %d rows were taken", taken)
	}
}

// said is whether EncodeOps takes an operation: told once more, by what its bytes would say of it.
func said(o api.FileOp) bool {
	said := api.FileOp{Kind: o.Kind, Name: o.Name}
	switch o.Kind {
	case 1:
		said.Bytes = o.Bytes
	case 2:
		said.Bytes, said.At = o.Bytes, o.At
	case 3:
		said.New = o.New
	case 4:
	default:
		return false
	}
	return alikeOps([]api.FileOp{o}, []api.FileOp{said}) && named(o.Name) && (o.Kind != 3 || named(o.New)) &&
		len(o.Bytes) <= 4096 && o.At >= 0 && o.At <= 4096
}
