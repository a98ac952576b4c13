package files_test

import (
	"fmt"
	"math"
	"slices"
	"strings"
	"testing"

	"heliograph/api"
	"heliograph/files"
)

// P5.2: the chapter's examples.
func TestApplyOfTheExamples(t *testing.T) {
	these := list(file("a", 1, 3), file("b", 2))
	gives(t, "put, put, write", api.Files{}, these, put("a", 1), put("b", 2), write("a", 1, 3))
	if b, e := files.Get(these, "a"); e != api.OK || string(b) != "\x01\x03" {
		t.Errorf("Get a: % x, error %d", b, e)
	}
	gives(t, "name a to b", these, list(file("b", 1, 3)), rename("a", "b"))
	refuses(t, "drop c", these, api.ErrNone, drop("c"))
	refuses(t, "write a at 3", these, api.ErrArg, write("a", 3, 0))
	refuses(t, "put with an empty name", these, api.ErrArg, put(""))
	refuses(t, "put of 4097 bytes", these, api.ErrLong, put("x", make([]byte, 4097)...))
}

// P5.2: without operations the files are as they were.
func TestApplyOfNothing(t *testing.T) {
	for what, f := range right() {
		gives(t, what, f, f)
		gives(t, what, f, f, []api.FileOp{}...)
	}
}

// P5.2, R2: ErrFiles goes ahead of all else, then ErrLong for too many operations.
func TestApplyToNoFilesAndOfTooMany(t *testing.T) {
	most := slices.Repeat([]api.FileOp{put("a", 1)}, api.MaxOps)
	bad := slices.Repeat([]api.FileOp{drop("x")}, api.MaxOps+1)
	more := slices.Repeat([]api.FileOp{put("a", 1)}, api.MaxOps+1)
	for what, f := range wrong() {
		refuses(t, what, f, api.ErrFiles)
		refuses(t, what, f, api.ErrFiles, put("a", 1))
		refuses(t, what, f, api.ErrFiles, drop("a"))
		refuses(t, what, f, api.ErrFiles, api.FileOp{})
		refuses(t, what, f, api.ErrFiles, more...)
	}
	gives(t, "as many as may be", api.Files{}, list(file("a", 1)), most...)
	refuses(t, "one too many", api.Files{}, api.ErrLong, more...)
	refuses(t, "one too many, the first one wrong", api.Files{}, api.ErrLong, bad...)
	refuses(t, "one too many, the last one wrong", api.Files{}, api.ErrLong, append(slices.Clone(most), api.FileOp{})...)
	refuses(t, "many too many", api.Files{}, api.ErrLong, slices.Repeat(more, 9)...)
	var each []api.FileOp
	var all api.Files
	for i := range api.MaxOps {
		each = append(each, put(name(api.MaxOps-1-i, 3), byte(api.MaxOps-1-i)))
		all.List = append(all.List, file(name(i, 3), byte(i)))
	}
	gives(t, "as many as may be, of each its own", api.Files{}, all, each...)
}

// P5.2: the Kinds that there are, and all others on both sides of them, also those whose lowest byte is a Kind.
func TestApplyOfEachKind(t *testing.T) {
	f := list(file("a", 1), file("b", 2))
	for _, kind := range []int{0, -1, 5, 6, 255, 256, 257, 258, 259, 260, -254, math.MinInt, math.MaxInt, 1 << 32, 1<<32 + 1} {
		refuses(t, fmt.Sprint("Kind ", kind), f, api.ErrArg, api.FileOp{Kind: kind, Name: "a", New: "c"})
		refuses(t, fmt.Sprint("Kind ", kind, ", no file"), f, api.ErrArg, api.FileOp{Kind: kind, Name: "x", New: "c"})
		refuses(t, fmt.Sprint("Kind ", kind, ", too long"), f, api.ErrArg, api.FileOp{Kind: kind, Name: "a", Bytes: make([]byte, 5000)})
	}
	gives(t, "Kind 1", f, list(file("a"), file("b", 2)), api.FileOp{Kind: 1, Name: "a"})
	gives(t, "Kind 2", f, list(file("a", 9), file("b", 2)), api.FileOp{Kind: 2, Name: "a", Bytes: []byte{9}})
	gives(t, "Kind 3", f, list(file("b", 2), file("c", 1)), api.FileOp{Kind: 3, Name: "a", New: "c"})
	gives(t, "Kind 4", f, list(file("b", 2)), api.FileOp{Kind: 4, Name: "a"})
}

// P5.2: fields that a Kind does not speak of are not asked.
func TestApplyAsksNoOtherFields(t *testing.T) {
	f := list(file("a", 1), file("b", 2))
	long := make([]byte, api.MaxFile+1)
	gives(t, "FilePut", f, list(file("a", 7), file("b", 2)), api.FileOp{Kind: api.FilePut, Name: "a", New: "b", At: -5, Bytes: []byte{7}})
	gives(t, "FilePut", f, list(file("a", 7), file("b", 2)), api.FileOp{Kind: api.FilePut, Name: "a", New: longest() + "z", At: 9999, Bytes: []byte{7}})
	gives(t, "FileWrite", f, list(file("a", 1, 7), file("b", 2)), api.FileOp{Kind: api.FileWrite, Name: "a", New: "b", At: 1, Bytes: []byte{7}})
	gives(t, "FileName", f, list(file("b", 2), file("c", 1)), api.FileOp{Kind: api.FileName, Name: "a", New: "c", At: -1, Bytes: long})
	gives(t, "FileDrop", f, list(file("b", 2)), api.FileOp{Kind: api.FileDrop, Name: "a", New: longest() + "z", At: 9999, Bytes: long})
}

// P5.2, R2: what is no name is ErrArg, of each Kind, whatever else is wrong.
func TestApplyOfWhatIsNoName(t *testing.T) {
	f := list(file("a", 1), file("b", 2))
	long := make([]byte, api.MaxFile+1)
	for _, s := range []string{"", longest() + "z", strings.Repeat("y", 255), strings.Repeat("y", 256), strings.Repeat("y", 257), strings.Repeat("y", 280)} {
		what := fmt.Sprint("a name of ", len(s), " bytes")
		refuses(t, what, f, api.ErrArg, put(s, 1))
		refuses(t, what, f, api.ErrArg, put(s, long...))
		refuses(t, what, f, api.ErrArg, write(s, 0, 1))
		refuses(t, what, f, api.ErrArg, write(s, 0, long...))
		refuses(t, what, f, api.ErrArg, rename(s, "c"))
		refuses(t, what, f, api.ErrArg, rename("a", s))
		refuses(t, what+", no file", f, api.ErrArg, rename("x", s))
		refuses(t, what, f, api.ErrArg, rename(s, s))
		refuses(t, what, f, api.ErrArg, drop(s))
		refuses(t, what, many(64, 509), api.ErrArg, put(s, 1))
	}
}

// P5.2: names at the edges, and with any bytes in them.
func TestApplyOfNames(t *testing.T) {
	for x := range 256 {
		one := string([]byte{byte(x)})
		for _, s := range []string{one, one + one, "k" + one, strings.Repeat(one, api.MaxName)} {
			f := list(file(s, 5))
			gives(t, fmt.Sprintf("put %q", s), api.Files{}, f, put(s, 5))
			gives(t, fmt.Sprintf("write %q", s), f, list(file(s, 5, 6)), write(s, 1, 6))
			gives(t, fmt.Sprintf("name %q", s), f, list(file("new", 5)), rename(s, "new"))
			gives(t, fmt.Sprintf("name to %q", s), list(file("old", 5)), f, rename("old", s))
			gives(t, fmt.Sprintf("drop %q", s), f, api.Files{}, drop(s))
		}
	}
}

// P5.2: FilePut: a new file at each place, and each file that there is.
func TestPut(t *testing.T) {
	f := list(file("b", 1, 2), file("d"), file("f", 3))
	gives(t, "ahead", f, list(file("a", 9), file("b", 1, 2), file("d"), file("f", 3)), put("a", 9))
	gives(t, "in the midst", f, list(file("b", 1, 2), file("c", 9), file("d"), file("f", 3)), put("c", 9))
	gives(t, "behind", f, list(file("b", 1, 2), file("d"), file("f", 3), file("ff", 9)), put("ff", 9))
	gives(t, "longer", f, list(file("b", 9, 8, 7), file("d"), file("f", 3)), put("b", 9, 8, 7))
	gives(t, "shorter", f, list(file("b", 9), file("d"), file("f", 3)), put("b", 9))
	gives(t, "the last one", f, list(file("b", 1, 2), file("d"), file("f", 4)), put("f", 4))
	gives(t, "of no bytes", f, list(file("b"), file("d"), file("f", 3)), put("b"))
	gives(t, "of no bytes, a new one", f, list(file("b", 1, 2), file("c"), file("d"), file("f", 3)), put("c"))
	gives(t, "of empty bytes", f, list(file("b"), file("d"), file("f", 3)), put("b", []byte{}...))
	gives(t, "the longest", f, list(file("b", 1, 2), file("d", fill(1, 4096)...), file("f", 3)), put("d", fill(1, 4096)...))
	for _, n := range []int{4097, 4098, 65536, 65537} {
		refuses(t, "too long", f, api.ErrLong, put("d", make([]byte, n)...))
		refuses(t, "too long, a new one", f, api.ErrLong, put("x", make([]byte, n)...))
	}
}

// P5.2: FileWrite: each At and each number of bytes, of a small file.
func TestWrite(t *testing.T) {
	for size := range 6 {
		f := list(file("a", 7), file("b", fill(1, size)...), file("c", 8))
		for at := -3; at <= size+3; at++ {
			for n := range 9 {
				what := fmt.Sprintf("%d bytes, %d from %d on", size, n, at)
				b := fill(2, n)
				if at < 0 || at > size {
					refuses(t, what, f, api.ErrArg, write("b", at, b...))
					continue
				}
				want := deep(f)
				old := want.List[1].Bytes
				want.List[1].Bytes = slices.Concat(old[:at], b, old[min(size, at+n):])
				gives(t, what, f, want, write("b", at, b...))
			}
		}
	}
}

// P5.2: FileWrite up to MaxFile, and beyond it; At far away; no such file.
func TestWriteAtTheEdges(t *testing.T) {
	half := list(file("a", fill(1, 2000)...))
	gives(t, "up to MaxFile", half, list(file("a", slices.Concat(fill(1, 2000), fill(2, 2096))...)), write("a", 2000, fill(2, 2096)...))
	refuses(t, "passing MaxFile", half, api.ErrLong, write("a", 2000, fill(2, 2097)...))
	gives(t, "up to MaxFile, from the midst", half, list(file("a", slices.Concat(fill(1, 1000), fill(2, 3096))...)), write("a", 1000, fill(2, 3096)...))
	refuses(t, "passing MaxFile, from the midst", half, api.ErrLong, write("a", 1000, fill(2, 3097)...))
	gives(t, "all anew, up to MaxFile", half, list(file("a", fill(2, 4096)...)), write("a", 0, fill(2, 4096)...))
	refuses(t, "all anew, passing MaxFile", half, api.ErrLong, write("a", 0, fill(2, 4097)...))
	full := list(file("a", fill(1, 4096)...))
	gives(t, "nothing at the end of a full one", full, full, write("a", 4096))
	refuses(t, "a byte at the end of a full one", full, api.ErrLong, write("a", 4096, 1))
	gives(t, "the last byte of a full one", full, list(file("a", append(fill(1, 4095), 9)...)), write("a", 4095, 9))
	refuses(t, "two bytes at the last place of a full one", full, api.ErrLong, write("a", 4095, 9, 9))
	refuses(t, "behind the end of a full one", full, api.ErrArg, write("a", 4097))
	for _, at := range []int{-1, math.MinInt, math.MaxInt, math.MaxInt - 1, 1 << 32, 1<<32 + 1, 1 << 16, -1 << 16} {
		refuses(t, fmt.Sprint("At ", at), half, api.ErrArg, write("a", at))
		refuses(t, fmt.Sprint("At ", at), half, api.ErrArg, write("a", at, 1, 2))
		refuses(t, fmt.Sprint("At ", at, ", too long"), half, api.ErrArg, write("a", at, fill(2, 5000)...))
		refuses(t, fmt.Sprint("At ", at, ", no file"), half, api.ErrNone, write("b", at, fill(2, 5000)...))
	}
	refuses(t, "no file", half, api.ErrNone, write("b", 0))
	refuses(t, "no file at all", api.Files{}, api.ErrNone, write("a", 0, 1))
	refuses(t, "no file, too long", half, api.ErrNone, write("b", 0, fill(2, 4097)...))
}

// P5.2: FileName: over itself, over another one, and to each place.
func TestName(t *testing.T) {
	f := list(file("b", 1), file("d", 2), file("f", 3))
	for _, s := range []string{"b", "d", "f"} {
		gives(t, "to itself", f, f, rename(s, s))
	}
	gives(t, "over the next one", f, list(file("d", 1), file("f", 3)), rename("b", "d"))
	gives(t, "over the last one", f, list(file("d", 2), file("f", 1)), rename("b", "f"))
	gives(t, "over the one ahead", f, list(file("b", 3), file("d", 2)), rename("f", "b"))
	gives(t, "over the one in the midst", f, list(file("b", 1), file("d", 3)), rename("f", "d"))
	gives(t, "ahead of all", f, list(file("a", 3), file("b", 1), file("d", 2)), rename("f", "a"))
	gives(t, "behind all", f, list(file("d", 2), file("f", 3), file("g", 1)), rename("b", "g"))
	gives(t, "at its own place", f, list(file("b", 1), file("e", 2), file("f", 3)), rename("d", "e"))
	gives(t, "at its own place, from behind", f, list(file("b", 1), file("c", 2), file("f", 3)), rename("d", "c"))
	gives(t, "to the longest name", f, list(file("b", 1), file("d", 2), file(longest(), 3)), rename("f", longest()))
	refuses(t, "of none", f, api.ErrNone, rename("c", "x"))
	refuses(t, "of none, over one", f, api.ErrNone, rename("c", "d"))
	refuses(t, "of none to itself", f, api.ErrNone, rename("c", "c"))
	refuses(t, "of none at all", api.Files{}, api.ErrNone, rename("a", "b"))
}

// P5.2: FileDrop of each file, and of none.
func TestDrop(t *testing.T) {
	f := list(file("b", 1), file("d", 2), file("f", 3))
	gives(t, "the first", f, list(file("d", 2), file("f", 3)), drop("b"))
	gives(t, "the midst", f, list(file("b", 1), file("f", 3)), drop("d"))
	gives(t, "the last", f, list(file("b", 1), file("d", 2)), drop("f"))
	gives(t, "all", f, api.Files{}, drop("d"), drop("f"), drop("b"))
	refuses(t, "twice", f, api.ErrNone, drop("d"), drop("d"))
	for _, s := range []string{"a", "c", "e", "g", "B", "bb", "d\x00"} {
		refuses(t, "none", f, api.ErrNone, drop(s))
	}
	refuses(t, "of none at all", api.Files{}, api.ErrNone, drop("b"))
}

// P5.2: ErrFull by the number of files.
func TestFullOfFiles(t *testing.T) {
	f := many(api.MaxFiles, 1)
	most := many(api.MaxFiles, 1)
	most.List[63] = file("zz", 5)
	refuses(t, "one more", f, api.ErrFull, put("x", 1))
	refuses(t, "one more, of no bytes", f, api.ErrFull, put("x"))
	refuses(t, "one more, ahead of all", f, api.ErrFull, put("\x00", 1))
	refuses(t, "one more that is too long", f, api.ErrLong, put("x", make([]byte, 4097)...))
	gives(t, "one that there is", many(api.MaxFiles, 1), list(append([]api.File{file(name(0, 3), 9)}, f.List[1:]...)...), put(name(0, 3), 9))
	gives(t, "another name", f, list(append(slices.Clone(f.List[1:]), file("x", f.List[0].Bytes...))...), rename(name(0, 3), "x"))
	gives(t, "up to the limit", list(f.List[:63]...), most, put("zz", 5))
	gives(t, "one gone, another one there", f, most, drop(name(63, 3)), put("zz", 5))
	refuses(t, "one more, then one gone", f, api.ErrFull, put("zz", 5), drop(name(63, 3)))
}

// P5.2: ErrFull by the bytes in all, of each Kind by which they can become more.
func TestFullOfBytes(t *testing.T) {
	f := brim()
	first := f.List[0]
	size := len(first.Bytes)
	refuses(t, "a name more", f, api.ErrFull, put("x"))
	refuses(t, "a longer file", f, api.ErrFull, put(first.Name, fill(5, size+1)...))
	refuses(t, "a byte behind", f, api.ErrFull, write(first.Name, size, 1))
	refuses(t, "two bytes over the end", f, api.ErrFull, write(first.Name, size-1, 1, 2))
	refuses(t, "a longer name", f, api.ErrFull, rename(first.Name, "xxxx"))
	refuses(t, "too long, not only full", f, api.ErrLong, write(first.Name, size, fill(1, 4)...))
	with := func(x api.File) api.Files { return list(append([]api.File{x}, f.List[1:]...)...) }
	gives(t, "as long a file", f, with(file(first.Name, fill(5, size)...)), put(first.Name, fill(5, size)...))
	gives(t, "a byte within", f, with(file(first.Name, append(slices.Clone(first.Bytes[:size-1]), 1)...)), write(first.Name, size-1, 1))
	gives(t, "as long a name", f, list(append(slices.Clone(f.List[1:]), file("xxx", first.Bytes...))...), rename(first.Name, "xxx"))
	gives(t, "a shorter name, a byte more", f, list(append(slices.Clone(f.List[1:]), file("xx", append(slices.Clone(first.Bytes), 9)...))...),
		rename(first.Name, "xx"), write("xx", size, 9))
	gives(t, "over another file", f, list(append([]api.File{file(f.List[1].Name, first.Bytes...)}, f.List[2:]...)...), rename(first.Name, f.List[1].Name))
	refuses(t, "a byte more, then a shorter name", f, api.ErrFull, write(first.Name, size, 9), rename(first.Name, "xx"))
	less := brim()
	less.List[0].Bytes = less.List[0].Bytes[:size-4]
	gives(t, "up to the brim by a name", less, list(append(slices.Clone(less.List), file("xxxx"))...), put("xxxx"))
	refuses(t, "above the brim by a name", less, api.ErrFull, put("xxxxx"))
	gives(t, "up to the brim by bytes", less, list(append(slices.Clone(less.List), file("x", 1, 2, 3))...), put("x", 1, 2, 3))
	refuses(t, "above the brim by bytes", less, api.ErrFull, put("x", 1, 2, 3, 4))
	gives(t, "up to the brim by writing", less, with(file(first.Name, slices.Concat(first.Bytes[:size-4], []byte{1, 2, 3, 4})...)), write(first.Name, size-4, 1, 2, 3, 4))
	refuses(t, "above the brim by writing", less, api.ErrFull, write(first.Name, size-4, 1, 2, 3, 4, 5))
}

// P5.2: a file that is replaced by a longer name's one no longer counts.
func TestFullOverAnotherFile(t *testing.T) {
	long := longest()
	f := brim()
	f.List[0].Bytes = f.List[0].Bytes[:4000]
	room := api.MaxStored - files.Cost(f)
	f.List = append(f.List, file(long, fill(9, room-len(long))...))
	if files.Cost(f) != api.MaxStored || files.Check(f) != api.OK {
		t.Fatal("the files are not at the brim")
	}
	want := list(slices.Clone(f.List[1:])...)
	want.List[len(want.List)-1] = file(long, f.List[0].Bytes...)
	gives(t, "a short name to a long one that is there", f, want, rename(f.List[0].Name, long))
	other := "y" + long[1:]
	refuses(t, "a short name to a long one that is not there", f, api.ErrFull, rename(f.List[0].Name, other))
}

// P5.2: the first error counts, and nothing is done, whatever goes ahead of it and behind it.
func TestAllOrNothing(t *testing.T) {
	f := list(file("a", 1, 2), file("b", 3), file("c"))
	good := []api.FileOp{put("d", 4), write("a", 0, 9, 9, 9), rename("b", "e"), drop("c"), put("a", 5)}
	bad := []struct {
		o api.FileOp
		e api.Errno
	}{
		{api.FileOp{}, api.ErrArg},
		{put(""), api.ErrArg},
		{put("x", make([]byte, 4097)...), api.ErrLong},
		{write("x", 0), api.ErrNone},
		{write("a", 9, 1), api.ErrArg},
		{write("a", 0, make([]byte, 4097)...), api.ErrLong},
		{rename("a", ""), api.ErrArg},
		{rename("x", "y"), api.ErrNone},
		{drop("x"), api.ErrNone},
	}
	for _, q := range bad {
		for at := range len(good) + 1 {
			l := slices.Insert(slices.Clone(good), at, q.o)
			refuses(t, fmt.Sprintf("%v at %d", q.o.Kind, at), f, q.e, l...)
			for _, other := range bad {
				refuses(t, fmt.Sprintf("%v at %d, %v behind", q.o.Kind, at, other.o.Kind), f, q.e, append(slices.Clone(l), other.o)...)
			}
		}
	}
	full := slices.Insert(slices.Clone(good), 2, put("p", make([]byte, 4096)...))
	for i := range 8 {
		full = append(full, put(name(i, 3), make([]byte, 4096)...))
	}
	refuses(t, "ErrFull behind others", f, api.ErrFull, full...)
	refuses(t, "ErrFull ahead of others", f, api.ErrFull, append(full, drop("x"))...)
	gives(t, "without the bad one", f, list(file("a", 5), file("d", 4), file("e", 3)), good...)
}

// P5.2: each operation stands on what those ahead of it have left.
func TestOperationsInOrder(t *testing.T) {
	f := list(file("a", 1))
	gives(t, "put, name, put", f, list(file("a", 2), file("b", 1)), rename("a", "b"), put("a", 2))
	gives(t, "turned about", list(file("a", 1), file("b", 2)), list(file("a", 2), file("b", 1)), rename("a", "t"), rename("b", "a"), rename("t", "b"))
	gives(t, "gone and there again", f, list(file("a")), drop("a"), put("a"))
	gives(t, "written on", f, list(file("a", 1, 2, 3, 4)), write("a", 1, 2, 9), write("a", 2, 3), write("a", 3, 4))
	refuses(t, "written behind what was cut", list(file("a", 1, 2, 3)), api.ErrArg, put("a", 1), write("a", 2, 9))
	refuses(t, "written when it has another name", f, api.ErrNone, rename("a", "b"), write("a", 0, 9))
	refuses(t, "dropped when it was named over", list(file("a", 1), file("b", 2)), api.ErrNone, rename("a", "b"), drop("a"))
	gives(t, "the name of a file that is gone", list(file("a", 1), file("b", 2)), list(file("b", 1)), drop("b"), rename("a", "b"))
	refuses(t, "a file that is gone", list(file("a", 1), file("b", 2)), api.ErrNone, drop("b"), rename("b", "a"))
}
