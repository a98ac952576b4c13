package files

import (
	"bytes"
	"slices"

	"heliograph/api"
)

// turning is files to which operations are being done, in memory of its own.
type turning struct {
	api.Files
}

// Apply answers what comes of f by the operations, in order (P5.2).
func Apply(f api.Files, l ...api.FileOp) (api.Files, api.Errno) {
	if e := Check(f); e != api.OK {
		return api.Files{}, e
	}
	if len(l) > api.MaxOps {
		return api.Files{}, api.ErrLong
	}
	t := turn(f)
	for _, o := range l {
		if e := t.do(o); e != api.OK {
			return api.Files{}, e
		}
	}
	return t.Files, api.OK
}

// turn copies each list, so that neither f nor two files of what comes of it share memory.
func turn(f api.Files) *turning {
	t := &turning{api.Files{List: slices.Clone(f.List)}}
	for i, x := range t.List {
		t.List[i].Bytes = bytes.Clone(x.Bytes)
	}
	return t
}

// do does one operation. With ErrFull it is done already: what is being turned is of no use any more behind an error.
func (t *turning) do(o api.FileOp) api.Errno {
	if !isName(o.Name) {
		return api.ErrArg
	}
	if e := t.byKind(o); e != api.OK {
		return e
	}
	if overfull(t.Files) {
		return api.ErrFull
	}
	return api.OK
}

func (t *turning) byKind(o api.FileOp) api.Errno {
	switch o.Kind {
	case api.FilePut:
		return t.put(o.Name, o.Bytes)
	case api.FileWrite:
		return t.write(o.Name, o.At, o.Bytes)
	case api.FileName:
		return t.rename(o.Name, o.New)
	case api.FileDrop:
		return t.drop(o.Name)
	}
	return api.ErrArg
}

func (t *turning) put(name string, b []byte) api.Errno {
	if len(b) > api.MaxFile {
		return api.ErrLong
	}
	t.set(name, bytes.Clone(b))
	return api.OK
}

func (t *turning) write(name string, at int, b []byte) api.Errno {
	i, there := place(t.List, name)
	if !there {
		return api.ErrNone
	}
	old := t.List[i].Bytes
	if at < 0 || at > len(old) {
		return api.ErrArg
	}
	if at+len(b) > api.MaxFile {
		return api.ErrLong
	}
	t.List[i].Bytes = overlaid(old, at, b)
	return api.OK
}

func (t *turning) rename(name, to string) api.Errno {
	if !isName(to) {
		return api.ErrArg
	}
	i, there := place(t.List, name)
	if !there {
		return api.ErrNone
	}
	b := t.List[i].Bytes
	t.List = slices.Delete(t.List, i, i+1)
	t.set(to, b)
	return api.OK
}

func (t *turning) drop(name string) api.Errno {
	i, there := place(t.List, name)
	if !there {
		return api.ErrNone
	}
	t.List = slices.Delete(t.List, i, i+1)
	return api.OK
}

// set makes b the bytes of the file, whether there is one or not. It keeps b.
func (t *turning) set(name string, b []byte) {
	i, there := place(t.List, name)
	if there {
		t.List[i].Bytes = b
		return
	}
	t.List = slices.Insert(t.List, i, api.File{Name: name, Bytes: b})
}

// overlaid answers old with b from at on, and so long that b has room; at is at most old's length.
func overlaid(old []byte, at int, b []byte) []byte {
	out := make([]byte, max(len(old), at+len(b)))
	copy(out, old)
	copy(out[at:], b)
	return out
}
