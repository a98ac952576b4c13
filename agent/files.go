package agent

import (
	"slices"

	"heliograph/api"
	"heliograph/bundle"
	"heliograph/files"
	"heliograph/octet"
)

// The names of an agent's files, rising.
const (
	nextName  = "a/next"
	partsName = "a/parts"
	seenName  = "a/seen"
)

// Save answers the agent's files (P19.5).
func Save(a api.Agent) ([]api.File, api.Errno) {
	if e := Check(a); e != api.OK {
		return nil, e
	}
	return []api.File{
		{Name: nextName, Bytes: octet.Put32(nil, a.Next)},
		{Name: partsName, Bytes: putParts(a.Parts)},
		{Name: seenName, Bytes: putSeen(a.Seen)},
	}, api.OK
}

func putParts(l []api.Bundle) []byte {
	out := []byte{byte(len(l))}
	for _, b := range l {
		x, _ := bundle.Encode(b)
		out = slices.Concat(octet.Put16(out, uint16(len(x))), x)
	}
	return out
}

func putSeen(l []api.Seen) []byte {
	out := []byte{byte(len(l))}
	for _, s := range l {
		out = octet.Put32(append(out, byte(s.Key.Source)), s.Key.Seq)
		out = octet.Put16(out, uint16(s.Key.Offset))
		out = octet.Put16(out, uint16(s.N))
	}
	return out
}

// Load answers the agent of that node of which these are the files (P19.5).
func Load(node int, l []api.File) (api.Agent, api.Errno) {
	f := api.Files{List: l}
	a := api.Agent{
		Node:  node,
		Next:  reader(f, nextName).U32(),
		Seen:  readSeen(reader(f, seenName)),
		Parts: readParts(reader(f, partsName)),
	}
	// What is read of anything else is an agent that may not be, or one that has not just these files.
	again, e := Save(a)
	if e != api.OK || !files.Same(api.Files{List: again}, f) {
		return api.Agent{}, api.ErrAgent
	}
	return a, api.OK
}

// reader stands ahead of the bytes of that file; of none, if it is not there, or if all of them are no files: those may be of any size, and are not read.
func reader(f api.Files, name string) *octet.Reader {
	b, _ := files.Get(f, name)
	return octet.Read(b)
}

// readParts reads bundles as long as they are any: a count may say more than there are.
func readParts(r *octet.Reader) []api.Bundle {
	var out []api.Bundle
	n := int(r.U8())
bundles:
	for len(out) < n {
		switch b, e := bundle.Decode(r.Raw(int(r.U16()))); e {
		case api.OK:
			out = append(out, b)
		default:
			break bundles
		}
	}
	return out
}

// readSeen reads as many as the count says; of those that are not there, zeros, which may not be.
func readSeen(r *octet.Reader) []api.Seen {
	var out []api.Seen
	for range r.U8() {
		key := api.Key{Source: int(r.U8()), Seq: r.U32(), Offset: int(r.U16())}
		out = append(out, api.Seen{Key: key, N: int(r.U16())})
	}
	return out
}
