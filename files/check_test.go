package files_test

import (
	"fmt"
	"slices"
	"strings"
	"testing"

	"heliograph/api"
	"heliograph/files"
)

// right are files of each kind that the chapter allows, up to its edges.
func right() map[string]api.Files {
	m := map[string]api.Files{
		"nil":                       {},
		"empty":                     {List: []api.File{}},
		"one":                       list(file("a", 1, 3)),
		"no bytes":                  list(file("a")),
		"empty bytes":               list(api.File{Name: "a", Bytes: []byte{}}),
		"a name of one byte":        list(file("\x00", 1)),
		"the longest name":          list(file(longest(), 1)),
		"the longest file":          list(file("a", fill(1, api.MaxFile)...)),
		"the longest of both":       list(file(longest(), fill(1, api.MaxFile)...)),
		"as many as may be":         many(api.MaxFiles, 0),
		"as many, with bytes":       many(api.MaxFiles, 509),
		"as many bytes as may be":   brim(),
		"a beginning ahead":         list(file("a"), file("a\x00"), file("aa"), file("aaa"), file("ab"), file("b")),
		"capitals ahead":            list(file("A"), file("B"), file("Z"), file("a"), file("b")),
		"high bytes behind":         list(file("\x00"), file("\x7f"), file("\x80"), file("\xc3\xa9"), file("\xff"), file("\xff\x00")),
		"signs":                     list(file(" "), file("."), file(".."), file("/"), file("\\"), file("a\nb"), file("a/b")),
		"the same bytes":            list(file("a", 1, 2), file("b", 1, 2)),
		"longer names in order":     list(file(strings.Repeat("x", 23)+"a"), file(strings.Repeat("x", 23)+"b")),
		"a name that is a number":   list(file("10"), file("9")),
		"a longer one that is less": list(file("aaaa"), file("b")),
	}
	var long api.Files
	for i := range api.MaxFiles {
		long.List = append(long.List, file(name(i, api.MaxName), fill(i, 488)...))
	}
	m["all names of MaxName"] = long
	below := brim()
	below.List[3].Bytes = below.List[3].Bytes[1:]
	m["one byte below the brim"] = below
	b := fill(1, 100)
	m["shared memory"] = list(file("a", b...), file("b", b[50:]...))
	return m
}

// wrong are what are no files, each for one reason.
func wrong() map[string]api.Files {
	m := map[string]api.Files{
		"a name of no bytes":              list(file("", 1)),
		"a name of no bytes, no bytes":    list(file("")),
		"a name of no bytes ahead":        list(file(""), file("a")),
		"a name one byte too long":        list(file(longest()+"z", 1)),
		"a name of 255 bytes":             list(file(strings.Repeat("z", 255), 1)),
		"a name of 256 bytes":             list(file(strings.Repeat("z", 256), 1)),
		"a name of 257 bytes":             list(file(strings.Repeat("z", 257), 1)),
		"a name too long in the midst":    list(file("a"), file(strings.Repeat("b", api.MaxName+1)), file("c")),
		"a name too long ahead":           list(file(strings.Repeat("b", api.MaxName+1)), file("c")),
		"a file one byte too long":        list(file("a", fill(1, api.MaxFile+1)...)),
		"a file too long behind":          list(file("a"), file("b", fill(1, api.MaxFile+1)...)),
		"a file too long ahead":           list(file("a", fill(1, api.MaxFile+1)...), file("b")),
		"a file of 65536 noughts":         list(file("a", make([]byte, 1<<16)...)),
		"one too many":                    many(api.MaxFiles+1, 0),
		"one too many, with bytes":        many(api.MaxFiles+1, 5),
		"twice a name":                    list(file("a", 1), file("a", 2)),
		"twice the same":                  list(file("a", 1), file("a", 1)),
		"twice at the end":                list(file("a"), file("b"), file("c"), file("c")),
		"twice, not side by side":         list(file("a"), file("b"), file("a")),
		"falling":                         list(file("b"), file("a")),
		"falling at the begin":            list(file("b"), file("a"), file("c"), file("d")),
		"falling in the midst":            list(file("a"), file("c"), file("b"), file("d")),
		"falling at the end":              list(file("a"), file("b"), file("d"), file("c")),
		"a beginning behind":              list(file("aa"), file("a")),
		"a beginning and a nought behind": list(file("a\x00"), file("a")),
		"small letters ahead":             list(file("a"), file("B")),
		"high bytes ahead":                list(file("\x80"), file("\x7f")),
		"numbers":                         list(file("9"), file("10")),
		"shorter ahead":                   list(file("b"), file("aaaa")),
	}
	over := brim()
	over.List[7].Bytes = append(over.List[7].Bytes, 1)
	m["one byte above the brim"] = over
	named := brim()
	named.List[7].Name += "x"
	m["one byte of a name above the brim"] = named
	m["one name above the brim"] = list(append(brim().List, file("z"))...)
	m["64 files above the brim"] = many(api.MaxFiles, 510)
	return m
}

// P5.1.
func TestCheckOfFiles(t *testing.T) {
	for what, f := range right() {
		if e := files.Check(f); e != api.OK {
			t.Errorf("%s: error %d", what, e)
		}
	}
	if n := files.Cost(brim()); n != api.MaxStored {
		t.Fatalf("the brim is at %d", n)
	}
}

// P5.1.
func TestCheckOfWhatAreNoFiles(t *testing.T) {
	for what, f := range wrong() {
		if e := files.Check(f); e != api.ErrFiles {
			t.Errorf("%s: error %d, want ErrFiles", what, e)
		}
	}
}

// P5.1: any byte may stand in a name, at any place, and names rise by their bytes.
func TestAnyByteInAName(t *testing.T) {
	for x := range 256 {
		one := string([]byte{byte(x)})
		for _, s := range []string{one, one + "a", "a" + one, "a" + one + "a", strings.Repeat(one, api.MaxName)} {
			if e := files.Check(list(file(s, 1))); e != api.OK {
				t.Errorf("the name %q: error %d", s, e)
			}
		}
		for y := range 256 {
			other := string([]byte{byte(y)})
			want := api.ErrFiles
			if x < y {
				want = api.OK
			}
			if e := files.Check(list(file("k"+one), file("k"+other))); e != want {
				t.Errorf("the names %q, %q: error %d, want %d", "k"+one, "k"+other, e, want)
			}
		}
	}
}

// P5.1: how many bytes a name and a file may have, from none up to beyond the limit.
func TestCheckOfEachLength(t *testing.T) {
	for n := range 300 {
		want := api.OK
		if n == 0 || n > api.MaxName {
			want = api.ErrFiles
		}
		if e := files.Check(list(file(strings.Repeat("a", n), 1))); e != want {
			t.Errorf("a name of %d bytes: error %d, want %d", n, e, want)
		}
	}
	for _, n := range []int{0, 1, 255, 256, 4095, 4096, 4097, 8192, 65535, 65536, 65537} {
		want := api.OK
		if n > api.MaxFile {
			want = api.ErrFiles
		}
		if e := files.Check(list(file("a", make([]byte, n)...))); e != want {
			t.Errorf("a file of %d bytes: error %d, want %d", n, e, want)
		}
	}
	for n := range 200 {
		var f api.Files
		for i := range n {
			f.List = append(f.List, file(fmt.Sprintf("%03d", i)))
		}
		want := api.OK
		if n > api.MaxFiles {
			want = api.ErrFiles
		}
		if e := files.Check(f); e != want {
			t.Errorf("%d files: error %d, want %d", n, e, want)
		}
	}
}

// P5.1: names and bytes count together, byte by byte, up to MaxStored.
func TestCheckOfTheBytesInAll(t *testing.T) {
	for names := 2; names <= api.MaxName; names++ {
		f := list()
		for i := range 7 {
			f.List = append(f.List, file(name(i, names), fill(i, 4096)...))
		}
		left := api.MaxStored - 7*(4096+names) - names
		f.List = append(f.List, file(name(7, names), fill(7, left)...))
		if e := files.Check(f); e != api.OK {
			t.Errorf("names of %d bytes, at the brim: error %d", names, e)
		}
		f.List[7].Bytes = fill(7, left+1)
		if e := files.Check(f); e != api.ErrFiles {
			t.Errorf("names of %d bytes, above the brim: error %d", names, e)
		}
	}
}

// P5.1: each two of all that are files and of all that are none.
func TestSame(t *testing.T) {
	var all []api.Files
	for _, f := range right() {
		all = append(all, f)
	}
	for _, f := range wrong() {
		all = append(all, f)
	}
	all = append(all,
		list(file("ab", 'c')), list(file("a", 'b', 'c')), list(file("a", 1), file("b", 2)), list(file("a", 2), file("b", 1)),
		list(file("b", 2), file("a", 1)), list(file("a", 1, 0)), list(file("a", 1)), list(file("a", 0)), list(file("a", 0, 0)))
	for i, a := range all {
		if !files.Same(a, deep(a)) {
			t.Errorf("%s is not the same as itself", short(a))
		}
		for _, b := range all[i:] {
			want := alike(a.List, b.List)
			if files.Same(a, b) != want || files.Same(b, a) != want {
				t.Errorf("Same of %s and %s is not %t both ways", short(a), short(b), want)
			}
		}
	}
}

// P5.1: one byte more, less or other makes them unlike, at each place; nil and empty are one.
func TestSameByABit(t *testing.T) {
	f := list(file("a", 1, 2, 3), file("bb"), file("ccc", fill(1, 9)...))
	for i, x := range f.List {
		for at := range x.Name {
			g := deep(f)
			b := []byte(x.Name)
			b[at] ^= 0x80
			g.List[i].Name = string(b)
			unlike(t, f, g)
		}
		for at := range x.Bytes {
			g := deep(f)
			g.List[i].Bytes[at] ^= 1
			unlike(t, f, g)
		}
		longer, renamed, less := deep(f), deep(f), deep(f)
		longer.List[i].Bytes = append(longer.List[i].Bytes, 0)
		renamed.List[i].Name += "\x00"
		less.List = slices.Delete(less.List, i, i+1)
		unlike(t, f, longer)
		unlike(t, f, renamed)
		unlike(t, f, less)
	}
	if !files.Same(api.Files{}, api.Files{List: []api.File{}}) ||
		!files.Same(list(file("a")), list(api.File{Name: "a", Bytes: []byte{}})) {
		t.Error("nil and empty are not one")
	}
}

func unlike(t *testing.T, a, b api.Files) {
	t.Helper()
	if files.Same(a, b) || files.Same(b, a) {
		t.Errorf("%s and %s are the same", short(a), short(b))
	}
}

// P5.1: of whatever stands there, files or not.
func TestCost(t *testing.T) {
	rows := []struct {
		f    api.Files
		want int
	}{
		{api.Files{}, 0},
		{api.Files{List: []api.File{}}, 0},
		{list(file("a")), 1},
		{list(file("a", 1, 3)), 3},
		{list(file("a", 1, 3), file("bcd", 0)), 7},
		{list(file("\xc3\xa9")), 2},
		{many(64, 10), 64 * 13},
		{brim(), 32768},
		{list(file("", 1)), 1},
		{list(file("")), 0},
		{list(file("b", 1), file("a", 1), file("a", 1)), 6},
		{list(file(strings.Repeat("x", 300), make([]byte, 70000)...)), 70300},
		{many(99, 1000), 99 * 1003},
	}
	for _, r := range rows {
		if got := files.Cost(r.f); got != r.want {
			t.Errorf("Cost of %s: %d, want %d", short(r.f), got, r.want)
		}
	}
}

// P5.3: each file of each kind of files, and names near them.
func TestGetAndFind(t *testing.T) {
	for what, f := range right() {
		for i, x := range f.List {
			b, e := files.Get(f, x.Name)
			if e != api.OK || string(b) != string(x.Bytes) {
				t.Errorf("%s: Get of %q: %d bytes, error %d", what, x.Name, len(b), e)
			}
			if at, there := files.Find(f, x.Name); at != i || !there {
				t.Errorf("%s: Find of %q: %d, %t; want %d, true", what, x.Name, at, there, i)
			}
		}
		for _, s := range []string{"", "none", "\x00\x00", "\xff\xff\xff", "m", longest() + "z", strings.Repeat("a", 300)} {
			missing(t, what, f, s)
		}
		for _, x := range f.List {
			missing(t, what, f, x.Name+"\x00")
			missing(t, what, f, x.Name[:len(x.Name)-1])
			missing(t, what, f, strings.ToUpper(x.Name)+"!")
		}
	}
}

// missing holds what is told of a name against a look at each name; a name that is there is passed over.
func missing(t *testing.T, what string, f api.Files, s string) {
	t.Helper()
	want := 0
	for _, x := range f.List {
		if x.Name == s {
			return
		}
		if x.Name < s {
			want++
		}
	}
	if at, there := files.Find(f, s); at != want || there {
		t.Errorf("%s: Find of %q: %d, %t; want %d, false", what, s, at, there, want)
	}
	if b, e := files.Get(f, s); e != api.ErrNone || len(b) != 0 {
		t.Errorf("%s: Get of %q: %d bytes, error %d; want ErrNone", what, s, len(b), e)
	}
}

// P5.3: the place of a name that is not there: at the begin, in the midst, at the end, of each number of files.
func TestFindOfWhatIsNotThere(t *testing.T) {
	for n := range api.MaxFiles + 1 {
		var f api.Files
		for i := range n {
			f.List = append(f.List, file(string([]byte{byte(2*i + 1)}), byte(i)))
		}
		for x := range 2*api.MaxFiles + 3 {
			s := string([]byte{byte(x)})
			at, there := files.Find(f, s)
			want, odd := min(x/2, n), x%2 == 1 && x/2 < n
			if at != want || there != odd {
				t.Fatalf("%d files, %q: %d, %t; want %d, %t", n, s, at, there, want, odd)
			}
			b, e := files.Get(f, s)
			if odd && (e != api.OK || len(b) != 1 || int(b[0]) != x/2) || !odd && (e != api.ErrNone || len(b) != 0) {
				t.Fatalf("%d files, %q: Get: % x, error %d", n, s, b, e)
			}
		}
	}
}

// P5.3, R2: ErrFiles goes ahead of ErrNone, also where the name is there.
func TestGetAndFindOfNoFiles(t *testing.T) {
	for what, f := range wrong() {
		names := []string{"", "a", "none", "\xff"}
		for _, x := range f.List {
			names = append(names, x.Name)
		}
		for _, s := range names {
			if b, e := files.Get(f, s); e != api.ErrFiles || len(b) != 0 {
				t.Errorf("%s: Get of %q: %d bytes, error %d; want ErrFiles", what, s, len(b), e)
			}
			if at, there := files.Find(f, s); at != 0 || there {
				t.Errorf("%s: Find of %q: %d, %t; want 0, false", what, s, at, there)
			}
		}
	}
}
