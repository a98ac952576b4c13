package bundle

import (
	"slices"

	"heliograph/api"
	"heliograph/cbor"
	"heliograph/octet"
	"heliograph/sum"
)

// version is the first number of each first block.
const version = 7

// Encode answers the bundle's bytes (P9.2).
func Encode(b api.Bundle) ([]byte, api.Errno) {
	if e := Check(b); e != api.OK {
		return nil, e
	}
	first := block(version, uint64(b.Dest), uint64(b.Source), uint64(b.Seq), uint64(b.Created), uint64(b.Lifetime),
		uint64(b.Offset), uint64(b.Total), uint64(b.Priority), uint64(b.HopLimit))
	return cbor.Encode(cbor.List(cbor.Bytes(sum.Seal16(first)), cbor.Number(uint64(b.Hops)), cbor.Bytes(sum.Seal32(b.Payload))))
}

// block answers the bytes of a list of so few numbers that it may always be.
func block(numbers ...uint64) []byte {
	var l []api.Item
	for _, n := range numbers {
		l = append(l, cbor.Number(n))
	}
	b, _ := cbor.Encode(cbor.List(l...))
	return b
}

// Size answers how many bytes the bundle has, 0 if it may not be (P9.2).
func Size(b api.Bundle) int {
	x, _ := Encode(b)
	return len(x)
}

// Decode answers the bundle whose bytes b are (P9.3).
func Decode(b []byte) (api.Bundle, api.Errno) {
	parts, ok := listOf(b, api.ItemBytes, api.ItemNumber, api.ItemBytes)
	if !ok {
		return api.Bundle{}, api.ErrBundle
	}
	first, wrongFirst := sum.Open16(parts[0].Bytes)
	payload, wrongPayload := sum.Open32(parts[2].Bytes)
	if wrongFirst != api.OK || wrongPayload != api.OK {
		return api.Bundle{}, api.ErrSum
	}
	out, ok := readBlock(first)
	if !ok {
		return api.Bundle{}, api.ErrBundle
	}
	out.Hops, out.Payload = int(parts[1].Num), payload
	// A version other than 7, or a number too great for its field, comes out as other bytes.
	again, e := Encode(out)
	if e != api.OK || !octet.Equal(again, b) {
		return api.Bundle{}, api.ErrBundle
	}
	return out, api.OK
}

// readBlock reads the fields of a first block, without asking whether the numbers have room in them.
func readBlock(b []byte) (api.Bundle, bool) {
	var out api.Bundle
	var seven, seq int
	into := []*int{&seven, &out.Dest, &out.Source, &seq, &out.Created, &out.Lifetime, &out.Offset, &out.Total, &out.Priority, &out.HopLimit}
	numbers, ok := listOf(b, slices.Repeat([]int{api.ItemNumber}, len(into))...)
	if !ok {
		return api.Bundle{}, false
	}
	for i, x := range numbers {
		*into[i] = int(x.Num)
	}
	out.Seq = uint32(seq)
	return out, true
}

// listOf answers the items of a list, if b is just the bytes of one whose items are of these kinds.
func listOf(b []byte, kinds ...int) ([]api.Item, bool) {
	x, n, e := cbor.Decode(b)
	if e != api.OK || n != len(b) || x.Kind != api.ItemList || len(x.Items) != len(kinds) {
		return nil, false
	}
	for i, kind := range kinds {
		if x.Items[i].Kind != kind {
			return nil, false
		}
	}
	return x.Items, true
}
