package files

import (
	"heliograph/api"
	"heliograph/octet"
)

// Encode answers the bytes of files (P5.4).
func Encode(f api.Files) ([]byte, api.Errno) {
	if e := Check(f); e != api.OK {
		return nil, e
	}
	b := put16(nil, len(f.List))
	for _, x := range f.List {
		b = putName(b, x.Name)
		b = putBytes(b, x.Bytes)
	}
	return b, api.OK
}

// Decode answers the files whose bytes b is (P5.4). Where it ends is told by its counts alone, whatever else is wrong with it: so ErrShort goes ahead of ErrFiles.
func Decode(b []byte) (api.Files, api.Errno) {
	r := octet.Read(b)
	f := readFiles(r)
	if e := r.Err(); e != api.OK {
		return api.Files{}, e
	}
	if r.Left() > 0 || Check(f) != api.OK {
		return api.Files{}, api.ErrFiles
	}
	return f, api.OK
}

// EncodeOps answers the bytes of operations (P5.5).
func EncodeOps(l []api.FileOp) ([]byte, api.Errno) {
	if len(l) > api.MaxOps {
		return nil, api.ErrLong
	}
	b := put16(nil, len(l))
	for _, o := range l {
		if !sayable(o) {
			return nil, api.ErrOps
		}
		b = putOp(b, o)
	}
	return b, api.OK
}

// DecodeOps answers the operations whose bytes b is (P5.5).
func DecodeOps(b []byte) ([]api.FileOp, api.Errno) {
	r := octet.Read(b)
	n := int(r.U16())
	if n > api.MaxOps {
		return nil, api.ErrOps
	}
	var l []api.FileOp
	for range n {
		o := readOp(r)
		if !sayable(o) {
			return nil, api.ErrOps
		}
		l = append(l, o)
	}
	if r.Err() != api.OK || r.Left() > 0 {
		return nil, api.ErrOps
	}
	return l, api.OK
}

// sayable answers whether the operation has bytes: each field that counts is one that they can say, and each other one is zero.
func sayable(o api.FileOp) bool {
	if !isName(o.Name) || len(o.Bytes) > api.MaxFile {
		return false
	}
	switch o.Kind {
	case api.FilePut:
		return o.New == "" && o.At == 0
	case api.FileWrite:
		return o.New == "" && o.At >= 0 && o.At <= api.MaxFile
	case api.FileName:
		return isName(o.New) && o.At == 0 && len(o.Bytes) == 0
	case api.FileDrop:
		return o.New == "" && o.At == 0 && len(o.Bytes) == 0
	}
	return false
}

func putOp(b []byte, o api.FileOp) []byte {
	b = append(b, byte(o.Kind))
	b = putName(b, o.Name)
	switch o.Kind {
	case api.FilePut:
		b = putBytes(b, o.Bytes)
	case api.FileWrite:
		b = put16(b, o.At)
		b = putBytes(b, o.Bytes)
	case api.FileName:
		b = putName(b, o.New)
	}
	return b
}

func readOp(r *octet.Reader) api.FileOp {
	o := api.FileOp{Kind: int(r.U8())}
	o.Name = readName(r)
	switch o.Kind {
	case api.FilePut:
		o.Bytes = readBytes(r)
	case api.FileWrite:
		o.At = int(r.U16())
		o.Bytes = readBytes(r)
	case api.FileName:
		o.New = readName(r)
	}
	return o
}

// readFiles reads as many as are counted, or as there are bytes for.
func readFiles(r *octet.Reader) api.Files {
	var f api.Files
	for range r.U16() {
		if r.Err() != api.OK {
			break
		}
		name := readName(r)
		f.List = append(f.List, api.File{Name: name, Bytes: readBytes(r)})
	}
	return f
}

func putName(b []byte, name string) []byte {
	b = append(b, byte(len(name)))
	return append(b, name...)
}

func readName(r *octet.Reader) string {
	n := r.U8()
	return string(r.Raw(int(n)))
}

func putBytes(b, x []byte) []byte {
	b = put16(b, len(x))
	return append(b, x...)
}

func readBytes(r *octet.Reader) []byte {
	n := r.U16()
	return r.Raw(int(n))
}

// put16 makes b itself longer: Put16 of b would copy all of it each time.
func put16(b []byte, n int) []byte {
	return append(b, octet.Put16(nil, uint16(n))...)
}
