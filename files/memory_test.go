package files_test

import (
	"bytes"
	"testing"

	"heliograph/api"
	"heliograph/files"
)

// roomy are files whose lists have room behind their ends, in which something stands.
func roomy() (api.Files, []api.File, []byte) {
	b := bytes.Repeat([]byte{0xee}, 60)
	l := []api.File{
		{Name: "a", Bytes: b[0:3]},
		{Name: "c", Bytes: b[20:22]},
		{Name: "e", Bytes: b[40:40]},
		{Name: "behind", Bytes: b[50:51]},
		{Name: "behind", Bytes: b[50:51]},
	}
	return api.Files{List: l[:3]}, l, b
}

func untouched(t *testing.T, what string, l []api.File, b []byte) {
	t.Helper()
	if !bytes.Equal(b, bytes.Repeat([]byte{0xee}, 60)) {
		t.Errorf("%s: the bytes that were handed in are % x now", what, b)
	}
	want := []string{"a", "c", "e", "behind", "behind"}
	sizes := []int{3, 2, 0, 1, 1}
	for i, x := range l {
		if x.Name != want[i] || len(x.Bytes) != sizes[i] {
			t.Errorf("%s: at %d of the list that was handed in stands %q now", what, i, x.Name)
		}
	}
}

// spoil lays noughts over each list of an answer, up to the end of its room, one by one, and holds each other one against what it was.
func spoil(t *testing.T, what string, f api.Files) {
	t.Helper()
	was := deep(f)
	for i := range f.List {
		b := f.List[i].Bytes
		clear(b[:cap(b)])
		was.List[i].Bytes = make([]byte, len(b))
		if !alike(f.List, was.List) {
			t.Errorf("%s: the file %q shares memory with another one", what, f.List[i].Name)
		}
	}
	clear(f.List[:cap(f.List)])
}

// R3: no operation changes what it is handed, the room behind it neither, and what comes of it is new memory.
func TestApplySharesNothing(t *testing.T) {
	bytesOf := bytes.Repeat([]byte{0xdd}, 30)
	same := bytesOf[10:12]
	rows := map[string][]api.FileOp{
		"nothing":          nil,
		"put ahead":        {put("A", same...)},
		"put behind":       {put("z", same...)},
		"put over":         {put("a", same...)},
		"put twice":        {put("x", same...), put("y", same...)},
		"write within":     {write("a", 0, same...)},
		"write behind":     {write("a", 3, same...)},
		"write to none":    {write("e", 0, same...)},
		"write no bytes":   {write("a", 1)},
		"put and write":    {put("x", same...), write("x", 1, same...), write("a", 1, same...)},
		"name":             {rename("a", "b")},
		"name over":        {rename("a", "e")},
		"name to itself":   {rename("a", "a")},
		"drop":             {drop("a")},
		"drop, put again":  {drop("a"), put("a", same...)},
		"name, put, write": {rename("a", "b"), put("a", same...), write("b", 0, same...)},
		"refused":          {put("x", same...), write("a", 0, same...), drop("c"), drop("c")},
	}
	for what, l := range rows {
		f, room, b := roomy()
		got, e := files.Apply(f, l...)
		again, _ := files.Apply(f, l...)
		untouched(t, what, room, b)
		if (e == api.OK) != (what != "refused") {
			t.Errorf("%s: error %d", what, e)
		}
		want := deep(again)
		spoil(t, what, got)
		untouched(t, what+", the answer spoilt", room, b)
		if !bytes.Equal(bytesOf, bytes.Repeat([]byte{0xdd}, 30)) {
			t.Errorf("%s: the operations' bytes have changed", what)
		}
		if !alike(again.List, want.List) {
			t.Errorf("%s: two answers share memory", what)
		}
		clear(b)
		clear(room)
		clear(bytesOf)
		if !alike(again.List, want.List) {
			t.Errorf("%s: the answer changes with what was handed in", what)
		}
		copy(bytesOf, bytes.Repeat([]byte{0xdd}, 30))
	}
}

// R3: the operations' list itself is neither changed nor kept.
func TestApplyLeavesTheOperations(t *testing.T) {
	l := []api.FileOp{put("x", 1), write("x", 1, 2), rename("x", "y"), put("z", 9), drop("z")}
	before := append([]api.FileOp{}, l...)
	f, e := files.Apply(api.Files{}, l...)
	if e != api.OK || !alikeOps(l, before) {
		t.Errorf("error %d, or the operations have changed", e)
	}
	clear(l)
	if !alike(f.List, []api.File{file("y", 1, 2)}) {
		t.Errorf("what comes of them is %s", short(f))
	}
}

// R3: files that share memory among themselves do so no longer in an answer.
func TestApplyPartsSharedMemory(t *testing.T) {
	b := fill(1, 20)
	f := list(file("a", b...), file("b", b...), file("c", b[5:]...))
	got, e := files.Apply(f, write("a", 0, 0, 0, 0))
	want := list(file("a", append([]byte{0, 0, 0}, fill(1, 20)[3:]...)...), file("b", fill(1, 20)...), file("c", fill(1, 20)[5:]...))
	if e != api.OK || !alike(got.List, want.List) {
		t.Errorf("%s, error %d", short(got), e)
	}
	spoil(t, "shared memory", got)
	if !bytes.Equal(b, fill(1, 20)) {
		t.Error("what was handed in has changed")
	}
}

// R3: Get.
func TestGetSharesNothing(t *testing.T) {
	f, room, b := roomy()
	one, _ := files.Get(f, "a")
	two, _ := files.Get(f, "a")
	_ = append(one, 1, 2, 3)
	clear(one[:cap(one)])
	untouched(t, "Get", room, b)
	clear(b)
	if !bytes.Equal(two, []byte{0xee, 0xee, 0xee}) {
		t.Errorf("% x", two)
	}
}

// R3: the calls that only ask.
func TestAskingChangesNothing(t *testing.T) {
	f, room, b := roomy()
	files.Check(f)
	files.Cost(f)
	files.Find(f, "b")
	files.Same(f, f)
	untouched(t, "asking", room, b)
}

// R3: Encode and Decode.
func TestBytesOfFilesShareNothing(t *testing.T) {
	f, room, b := roomy()
	one, _ := files.Encode(f)
	two, _ := files.Encode(f)
	want := bytes.Clone(two)
	clear(one[:cap(one)])
	untouched(t, "Encode", room, b)
	clear(b)
	if !bytes.Equal(two, want) {
		t.Error("what was encoded changes with what was handed in, or with another answer")
	}
	wide := append(bytes.Clone(want), 0xee, 0xee)
	in := wide[:len(want)]
	got, _ := files.Decode(in)
	other, _ := files.Decode(in)
	told := deep(other)
	spoil(t, "Decode", got)
	if !bytes.Equal(wide, append(bytes.Clone(want), 0xee, 0xee)) {
		t.Error("what Decode was handed has changed")
	}
	clear(wide)
	if !alike(other.List, told.List) || len(other.List) != 3 {
		t.Error("what was decoded changes with what was handed in, or with another answer")
	}
}

// R3: EncodeOps and DecodeOps.
func TestBytesOfOperationsShareNothing(t *testing.T) {
	b := bytes.Repeat([]byte{0xee}, 20)
	l := []api.FileOp{put("a", b[:3]...), write("a", 0, b[:2]...), rename("a", "b"), drop("b")}
	want := plainOps(l...)
	one, _ := files.EncodeOps(l)
	two, _ := files.EncodeOps(l)
	clear(one[:cap(one)])
	if !bytes.Equal(b, bytes.Repeat([]byte{0xee}, 20)) || !bytes.Equal(two, want) {
		t.Error("EncodeOps has changed what it was handed, or shares an answer")
	}
	clear(b)
	if !bytes.Equal(two, want) {
		t.Error("what was encoded changes with what was handed in")
	}
	in := bytes.Clone(want)
	got, _ := files.DecodeOps(in)
	other, _ := files.DecodeOps(in)
	first := got[0].Bytes
	clear(first[:cap(first)])
	if !bytes.Equal(got[1].Bytes, []byte{0xee, 0xee}) {
		t.Error("two operations share memory")
	}
	clear(got)
	if !bytes.Equal(in, want) {
		t.Error("what DecodeOps was handed has changed")
	}
	clear(in)
	if !bytes.Equal(plainOps(other...), want) {
		t.Error("what was decoded changes with what was handed in, or with another answer")
	}
}
