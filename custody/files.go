package custody

import (
	"slices"
	"strconv"
	"strings"

	"heliograph/api"
	"heliograph/bundle"
	"heliograph/files"
	"heliograph/octet"
)

// Name answers the name that a bundle of that key has as a file (P17.1).
func Name(k api.Key) string {
	var name strings.Builder
	name.WriteString("b/")
	name.WriteString(strconv.Itoa(k.Source))
	name.WriteByte('/')
	name.WriteString(strconv.FormatUint(uint64(k.Seq), 10))
	name.WriteByte('/')
	name.WriteString(strconv.Itoa(k.Offset))
	return name.String()
}

// Save answers the files of custody (P17.4).
func Save(c api.Custody) ([]api.File, api.Errno) {
	if e := Check(c); e != api.OK {
		return nil, e
	}
	var out []api.File
	for i, b := range c.List {
		x, _ := bundle.Encode(b)
		out = append(out, api.File{Name: Name(Key(b)), Bytes: slices.Concat(octet.Put16(nil, uint16(i)), x)})
	}
	slices.SortFunc(out, byName)
	return out, api.OK
}

func byName(a, b api.File) int {
	return strings.Compare(a.Name, b.Name)
}

// Load answers the custody of which these are the files (P17.4).
func Load(l []api.File) (api.Custody, api.Errno) {
	// What are no files may be of any size: they are not read at all.
	if len(l) > api.MaxBundles || files.Check(api.Files{List: l}) != api.OK {
		return api.Custody{}, api.ErrCustody
	}
	c := api.Custody{List: make([]api.Bundle, len(l))}
	for _, f := range l {
		at, b := read(f.Bytes)
		if at >= len(l) {
			return api.Custody{}, api.ErrCustody
		}
		c.List[at] = b
	}
	// With a place there twice another one is left out, and the bundle there may not be; a wrong name comes out as other files.
	again, e := Save(c)
	if e != api.OK || !files.Same(api.Files{List: again}, api.Files{List: l}) {
		return api.Custody{}, api.ErrCustody
	}
	return c, api.OK
}

// read answers the place and the bundle of a file; of what is no bundle's bytes one that may not be.
func read(b []byte) (int, api.Bundle) {
	r := octet.Read(b)
	at := int(r.U16())
	x, _ := bundle.Decode(r.Raw(r.Left()))
	return at, x
}
