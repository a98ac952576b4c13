package files_test

import (
	"bytes"
	"encoding/binary"
	"fmt"
	"slices"
	"strings"
	"testing"

	"heliograph/api"
	"heliograph/files"
)

func put(name string, b ...byte) api.FileOp {
	return api.FileOp{Kind: api.FilePut, Name: name, Bytes: b}
}

func write(name string, at int, b ...byte) api.FileOp {
	return api.FileOp{Kind: api.FileWrite, Name: name, At: at, Bytes: b}
}

func rename(name, to string) api.FileOp {
	return api.FileOp{Kind: api.FileName, Name: name, New: to}
}

func drop(name string) api.FileOp {
	return api.FileOp{Kind: api.FileDrop, Name: name}
}

func file(name string, b ...byte) api.File {
	return api.File{Name: name, Bytes: b}
}

func list(l ...api.File) api.Files {
	return api.Files{List: l}
}

// fill is n bytes, others for each seed, none of them a nought.
func fill(seed, n int) []byte {
	b := make([]byte, n)
	for i := range b {
		b[i] = byte(1 + (seed*31+i*7)%255)
	}
	return b
}

// name is a name of n bytes that rises with i.
func name(i, n int) string {
	return fmt.Sprintf("%02d", i) + strings.Repeat("n", n-2)
}

// many are n files, each with a name of 3 bytes and so many bytes of its own.
func many(n, size int) api.Files {
	var f api.Files
	for i := range n {
		f.List = append(f.List, file(name(i, 3), fill(i, size)...))
	}
	return f
}

// brim are 8 files that have just MaxStored bytes in all, each with a name of 3 bytes.
func brim() api.Files {
	return many(8, api.MaxStored/8-3)
}

// longest is a name of MaxName bytes.
func longest() string {
	return strings.Repeat("z", api.MaxName)
}

// alike is Same, told once more.
func alike(a, b []api.File) bool {
	if len(a) != len(b) {
		return false
	}
	for i := range a {
		if a[i].Name != b[i].Name || !bytes.Equal(a[i].Bytes, b[i].Bytes) {
			return false
		}
	}
	return true
}

// deep is a copy that shares nothing.
func deep(f api.Files) api.Files {
	var g api.Files
	for _, x := range f.List {
		g.List = append(g.List, api.File{Name: x.Name, Bytes: slices.Clone(x.Bytes)})
	}
	return g
}

// short tells files without all of their bytes.
func short(f api.Files) string {
	var s []string
	for _, x := range f.List {
		s = append(s, fmt.Sprintf("%q (%d) % x", x.Name, len(x.Bytes), x.Bytes[:min(8, len(x.Bytes))]))
	}
	return "[" + strings.Join(s, ", ") + "]"
}

func gives(t *testing.T, what string, f api.Files, want api.Files, l ...api.FileOp) {
	t.Helper()
	got, e := files.Apply(f, l...)
	if e != api.OK || !alike(got.List, want.List) {
		t.Errorf("%s: %s, error %d; want %s", what, short(got), e, short(want))
	}
}

func refuses(t *testing.T, what string, f api.Files, want api.Errno, l ...api.FileOp) {
	t.Helper()
	before := deep(f)
	got, e := files.Apply(f, l...)
	if e != want || len(got.List) != 0 {
		t.Errorf("%s: %s, error %d; want nothing, error %d", what, short(got), e, want)
	}
	if !alike(f.List, before.List) {
		t.Errorf("%s: what was handed in is %s now", what, short(f))
	}
}

// plainName, plainBytes and the two that stand on them lay bytes as the chapter's words say it, whatever they are handed.
func plainName(b []byte, s string) []byte {
	return append(append(b, byte(len(s))), s...)
}

func plainBytes(b, x []byte) []byte {
	return append(binary.BigEndian.AppendUint16(b, uint16(len(x))), x...)
}

func plainFiles(f api.Files) []byte {
	b := binary.BigEndian.AppendUint16(nil, uint16(len(f.List)))
	for _, x := range f.List {
		b = plainBytes(plainName(b, x.Name), x.Bytes)
	}
	return b
}

func plainOps(l ...api.FileOp) []byte {
	b := binary.BigEndian.AppendUint16(nil, uint16(len(l)))
	for _, o := range l {
		b = plainName(append(b, byte(o.Kind)), o.Name)
		if o.Kind == api.FileWrite {
			b = binary.BigEndian.AppendUint16(b, uint16(o.At))
		}
		if o.Kind == api.FileWrite || o.Kind == api.FilePut {
			b = plainBytes(b, o.Bytes)
		}
		if o.Kind == api.FileName {
			b = plainName(b, o.New)
		}
	}
	return b
}

// dice is a row of numbers that is the same at each run.
type dice uint64

func (d *dice) below(n int) int {
	*d = *d*6364136223846793005 + 1442695040888963407
	return int(uint64(*d>>33) % uint64(n))
}
