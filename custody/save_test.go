package custody_test

import (
	"fmt"
	"slices"
	"strings"
	"testing"

	"heliograph/api"
	"heliograph/bundle"
	"heliograph/custody"
	"heliograph/files"
)

// P17.4: the chapter's example, byte for byte.
func TestSaveOfTheExample(t *testing.T) {
	l, e := custody.Save(list(example()[:2]...))
	if e != api.OK || len(l) != 2 || l[0].Name != "b/1/1/0" || l[1].Name != "b/1/2/0" || len(l[0].Bytes) != 25 || len(l[1].Bytes) != 25 {
		t.Fatalf("Save: %+v, error %d", l, e)
	}
	for i, f := range l {
		x, _ := bundle.Encode(example()[i])
		if text(f.Bytes) != text(append([]byte{0, byte(i)}, x...)) {
			t.Errorf("%s: % x", f.Name, f.Bytes)
		}
	}
}

// P17.4: Save of nothing, of one, of as many as there may be; the names rise, and they are files.
func TestSave(t *testing.T) {
	for what, c := range fine(t) {
		got := ofSave(custody.Save(c))
		wants(t, what, got, toldSave(c))
		rising := slices.IsSortedFunc(got.l, func(a, b api.File) int { return strings.Compare(a.Name, b.Name) })
		if len(got.l) != len(c.List) || !rising || files.Check(api.Files{List: got.l}) != api.OK {
			t.Errorf("%s: %+v", what, got)
		}
	}
}

// P17.4: the names rise byte by byte, not as numbers do, whatever the order in custody is.
func TestSaveOfNames(t *testing.T) {
	want := []string{"b/1/1/0", "b/1/10/0", "b/1/10/10", "b/1/10/100", "b/1/10/2", "b/1/100/0", "b/1/11/0", "b/1/2/0", "b/1/9/0", "b/1/9/9", "b/1/99/0", "b/2/1/0", "b/2/10/0", "b/2/4294967295/0", "b/2/9/0"}
	var c api.Custody
	for i, name := range want {
		var b api.Bundle
		var source, at int
		var seq uint32
		fmt.Sscanf(name, "b/%d/%d/%d", &source, &seq, &at)
		if b = whole(source, seq, 3+i); at > 0 {
			b = piece(source, seq, at, 3+i)
		}
		c.List = append(c.List, b)
	}
	d := chance(4)
	for range 200 {
		d.Shuffle(len(c.List), func(i, j int) { c.List[i], c.List[j] = c.List[j], c.List[i] })
		got := ofSave(custody.Save(c))
		wants(t, "shuffled", got, toldSave(c))
		for i, f := range got.l {
			if f.Name != want[i] || f.Bytes[0] != 0 || nameOf(c.List[f.Bytes[1]]) != f.Name {
				t.Fatalf("the file %d is %+v, want %s", i, f, want[i])
			}
		}
	}
}

// P17.4: the first two bytes are the place in custody, the highest first.
func TestSaveOfPlaces(t *testing.T) {
	c := many(maxBundles)
	slices.Reverse(c.List)
	for _, f := range saved(t, c) {
		i := int(f.Bytes[1])
		if x, _ := bundle.Encode(c.List[i]); f.Bytes[0] != 0 || f.Name != nameOf(c.List[i]) || text(f.Bytes[2:]) != text(x) {
			t.Errorf("%+v stands at %d", f, i)
		}
	}
}

// P17.4: custody that may not be has no files.
func TestSaveOfWrongCustody(t *testing.T) {
	for what, c := range wrongCustody(t) {
		refuses(t, what, ofSave(custody.Save(c)), api.ErrCustody)
	}
}

// P17.4, P17.5: Load of what Save told is the custody.
func TestLoadOfSave(t *testing.T) {
	d := chance(5)
	for what, c := range fine(t) {
		for range 5 {
			wants(t, what, of(custody.Load(saved(t, c))), answer{c: c})
			d.Shuffle(len(c.List), func(i, j int) { c.List[i], c.List[j] = c.List[j], c.List[i] })
		}
	}
	wants(t, "nothing", of(custody.Load(nil)), answer{})
	wants(t, "an empty list", of(custody.Load([]api.File{})), answer{})
}

// loads asks whether Load answers ErrCustody, and whether that is what is told once more.
func loads(t *testing.T, what string, l []api.File) {
	t.Helper()
	refuses(t, what, of(custody.Load(l)), api.ErrCustody)
	refuses(t, what+", told once more", toldLoad(l), api.ErrCustody)
}

// P17.4: Load of the files in another order.
func TestLoadInAnotherOrder(t *testing.T) {
	for _, c := range []api.Custody{unlike(), many(maxBundles)} {
		l := saved(t, c)
		for i := range l {
			for j := range i {
				x := deepFiles(l)
				x[i], x[j] = x[j], x[i]
				loads(t, fmt.Sprint(i, " and ", j, " exchanged"), x)
			}
		}
		slices.Reverse(l)
		loads(t, "reversed", l)
	}
}

// P17.4: Load with one file gone: what is left is right only if that was the last one in custody.
func TestLoadWithOneGone(t *testing.T) {
	for _, c := range []api.Custody{unlike(), many(maxBundles), holding(t, maxBundles, maxHeld)} {
		l := saved(t, c)
		for i := range l {
			less := slices.Delete(deepFiles(l), i, i+1)
			if n := len(c.List) - 1; int(l[i].Bytes[1]) == n {
				wants(t, "without the last one", of(custody.Load(less)), answer{c: list(c.List[:n]...)})
			} else {
				loads(t, fmt.Sprint("without ", l[i].Name), less)
			}
		}
	}
}

// inOrder has one more file where its name stands.
func inOrder(l []api.File, f api.File) []api.File {
	i, _ := slices.BinarySearchFunc(l, f.Name, func(f api.File, name string) int { return strings.Compare(f.Name, name) })
	return slices.Insert(deepFiles(l), i, f)
}

// P17.4: Load with one file more.
func TestLoadWithOneMore(t *testing.T) {
	l := saved(t, unlike())
	n := byte(len(l))
	b := whole(3, 5, 9)
	x, _ := bundle.Encode(b)
	more := func(name string, place byte, x []byte) []api.File {
		return inOrder(l, api.File{Name: name, Bytes: append([]byte{0, place}, x...)})
	}
	wants(t, "the next one", of(custody.Load(more("b/3/5/0", n, x))), answer{c: list(append(unlike().List, b)...)})
	for place := range 256 {
		if place != int(n) {
			loads(t, fmt.Sprint("one more at ", place), more("b/3/5/0", byte(place), x))
		}
	}
	for _, name := range []string{"", "a", "b", "b/", "b/3", "b/3/5", "b/3/5/", "b/3/5/00", "b/3/05/0", "b/03/5/0", "b/3/5/0/", "b/3/5/0/0", "b/3/5/1", "b/3/6/0", "b/2/5/0", "b/+3/5/0", "b/3/5/-0", "B/3/5/0", "c/3/5/0", "b/3/5/0 ", " b/3/5/0", "b\\3\\5\\0", "b/3/5/0\x00", "b-3-5-0", "f/x"} {
		loads(t, fmt.Sprintf("one more of the name %q", name), more(name, n, x))
		loads(t, fmt.Sprintf("one more of the name %q, with nothing", name), inOrder(l, api.File{Name: name}))
		loads(t, fmt.Sprintf("one more of the name %q, with some bytes", name), inOrder(l, api.File{Name: name, Bytes: fill(4, 40)}))
		loads(t, fmt.Sprintf("just the name %q", name), []api.File{{Name: name, Bytes: append([]byte{0, 0}, x...)}})
	}
	for i, f := range l {
		loads(t, f.Name+" twice", slices.Insert(deepFiles(l), i, f))
	}
}

// P17.4: Load of a bundle under another bundle's name, and under the name of none.
func TestLoadUnderAnotherName(t *testing.T) {
	l := saved(t, unlike())
	for i := range l {
		for j := range l {
			if i == j {
				continue
			}
			x := deepFiles(l)
			x[i].Bytes, x[j].Bytes = x[j].Bytes, x[i].Bytes
			loads(t, fmt.Sprint("the bytes of ", i, " and ", j, " exchanged"), x)
			y := deepFiles(l)
			y[i].Bytes = append(y[i].Bytes[:2:2], l[j].Bytes[2:]...)
			loads(t, fmt.Sprint("the bundle of ", j, " under the name of ", i), y)
			y[j].Bytes = append(y[j].Bytes[:2:2], l[i].Bytes[2:]...)
			loads(t, fmt.Sprint("the bundles of ", i, " and ", j, " exchanged"), y)
		}
		for k := range len(l[i].Name) {
			for _, c := range "/0127b" {
				x := deepFiles(l)
				x[i].Name = x[i].Name[:k] + string(c) + x[i].Name[k+1:]
				if x[i].Name != l[i].Name {
					loads(t, fmt.Sprintf("%q instead of %q", x[i].Name, l[i].Name), x)
				}
			}
			x := deepFiles(l)
			x[i].Name = x[i].Name[:k] + x[i].Name[k+1:]
			loads(t, fmt.Sprintf("%q instead of %q", x[i].Name, l[i].Name), x)
		}
	}
	one := saved(t, list(example()[0]))
	for _, name := range []string{"", "b/1/1/", "b/1/1/1", "b/1/1/00", "b/1/2/0", "b/2/1/0", "b/1/1/0 ", "a/1/1/0", strings.Repeat("b", 25)} {
		loads(t, fmt.Sprintf("%q alone", name), []api.File{{Name: name, Bytes: one[0].Bytes}})
	}
}

// P17.4: Load with a place changed: one there twice, one left out, one beyond the last; two exchanged are other custody.
func TestLoadOfPlaces(t *testing.T) {
	for _, c := range []api.Custody{list(example()[0]), unlike(), many(maxBundles)} {
		l := saved(t, c)
		for i := range l {
			for _, high := range []int{0, 1, 2, 31, 32, 128, 255} {
				for _, low := range []int{0, 1, 2, 5, 6, 7, 30, 31, 32, 33, 255} {
					if high == 0 && low == int(l[i].Bytes[1]) {
						continue
					}
					x := deepFiles(l)
					x[i].Bytes[0], x[i].Bytes[1] = byte(high), byte(low)
					if got := of(custody.Load(x)); got.e != api.ErrCustody || got.c.List != nil {
						t.Errorf("%s at %d %d: %+v", x[i].Name, high, low, got)
					}
				}
			}
			for j := range i {
				x := deepFiles(l)
				x[i].Bytes[1], x[j].Bytes[1] = x[j].Bytes[1], x[i].Bytes[1]
				p, q := x[i].Bytes[1], x[j].Bytes[1]
				wants(t, "two places exchanged", of(custody.Load(x)), answer{c: changed(c, func(l []api.Bundle) []api.Bundle { l[p], l[q] = l[q], l[p]; return l })})
			}
		}
		x := deepFiles(l)
		for i := range x {
			x[i].Bytes[1]++
		}
		loads(t, "all places one greater", x)
		for i := range x {
			x[i].Bytes[1] = 0
		}
		if len(x) > 1 {
			loads(t, "all places the first", x)
		}
	}
}

// P17.4: Load with a file's bytes cut, at the end or ahead, with one byte more, and with one bit turned.
func TestLoadOfSpoiltBytes(t *testing.T) {
	for _, c := range []api.Custody{list(example()[0]), unlike()} {
		l := saved(t, c)
		for i, f := range l {
			with := func(what string, b []byte) {
				t.Helper()
				x := deepFiles(l)
				x[i].Bytes = b
				loads(t, fmt.Sprint(f.Name, " ", what), x)
			}
			for n := range f.Bytes {
				with(fmt.Sprint("cut to ", n), f.Bytes[:n:n])
				if n > 0 {
					with(fmt.Sprint("cut ahead by ", n), f.Bytes[n:])
				}
			}
			for _, n := range []int{0, 1, 0x80, 0xff} {
				with("with one more", append(f.Bytes[:len(f.Bytes):len(f.Bytes)], byte(n)))
				with("with one more ahead", append([]byte{byte(n)}, f.Bytes...))
				with("with one more between", slices.Insert(slices.Clone(f.Bytes), 2, byte(n)))
			}
			with("twice", slices.Repeat(f.Bytes, 2))
			with("nil", nil)
			for bit := 16; bit < 8*len(f.Bytes); bit++ {
				b := slices.Clone(f.Bytes)
				b[bit/8] ^= 128 >> (bit % 8)
				x := deepFiles(l)
				x[i].Bytes = b
				got, want := of(custody.Load(x)), toldLoad(x)
				wants(t, fmt.Sprint(f.Name, " with the bit ", bit, " turned"), got, want)
				// The number of hops has no checksum: with a bit of it turned they may be the files of other custody.
				if got.e == api.OK && (got.c.List[f.Bytes[1]].Hops == c.List[f.Bytes[1]].Hops || custody.Same(got.c, c)) {
					t.Errorf("%s with the bit %d turned: %+v", f.Name, bit, got)
				}
			}
			for bit := range 16 {
				b := slices.Clone(f.Bytes)
				b[bit/8] ^= 128 >> (bit % 8)
				with(fmt.Sprint("with the bit ", bit, " turned"), b)
			}
		}
	}
}

// P17.4: Load of the files of what may not be: too many bundles, or bytes, or a bundle that may not be.
func TestLoadOfWrongCustody(t *testing.T) {
	saved := func(c api.Custody) []api.File {
		var l []api.File
		for i, b := range c.List {
			x, _ := bundle.Encode(b)
			l = inOrder(l, api.File{Name: nameOf(b), Bytes: append([]byte{0, byte(i)}, x...)})
		}
		return l
	}
	wants(t, "many", answer{l: saved(many(maxBundles))}, toldSave(many(maxBundles)))
	for what, c := range wrongCustody(t) {
		loads(t, what, saved(c))
	}
	for _, n := range []int{40, 48} {
		loads(t, fmt.Sprint(n), saved(many(n)))
	}
	none := make([]api.File, 1<<16)
	refuses(t, "very many", of(custody.Load(none)), api.ErrCustody)
	refuses(t, "huge", of(custody.Load([]api.File{{Name: "b/1/1/0", Bytes: make([]byte, 1<<20)}})), api.ErrCustody)
}

// P17.4: Load by chance of files that are changed a little, held against what is told once more.
func TestLoadHeld(t *testing.T) {
	d := chance(6)
	right := 0
	for range 6000 {
		l := deepFiles(saved(t, many(1+d.IntN(12))))
		i, j := d.IntN(len(l)), d.IntN(len(l))
		switch d.IntN(8) {
		case 0:
			l[i].Bytes[1], l[j].Bytes[1] = l[j].Bytes[1], l[i].Bytes[1]
		case 1:
			l[i].Bytes[1] = byte(d.IntN(13))
		case 2:
			l = slices.Delete(l, i, i+1)
		case 3:
			l[i].Bytes, l[j].Bytes = l[j].Bytes, l[i].Bytes
		case 4:
			l[i].Name, l[j].Name = l[j].Name, l[i].Name
		case 5:
			l[i], l[j] = l[j], l[i]
		case 6:
			l[i].Bytes[d.IntN(len(l[i].Bytes))] ^= 1 << d.IntN(8)
		case 7:
			other := saved(t, many(maxBundles))
			l = inOrder(l, other[d.IntN(len(other))])
		}
		want := toldLoad(l)
		if want.e == api.OK {
			right++
		}
		got := of(custody.Load(l))
		wants(t, text(l), got, want)
		if again := ofSave(custody.Save(got.c)); got.e == api.OK && !files.Same(api.Files{List: again.l}, api.Files{List: l}) {
			t.Fatalf("Save of Load of %+v: %+v", l, again)
		}
	}
	if right < 900 || right > 4500 {
		t.Errorf("%d of 6000 are the files of custody", right)
	}
}
