package sdnv_test

import (
	"bytes"
	"slices"
	"testing"

	"heliograph/api"
	"heliograph/sdnv"
)

// some are numbers of each length, rising.
func some() []uint64 {
	d := dice(13)
	l := steps()
	for range 1500 {
		l = append(l, d.number())
	}
	slices.Sort(l)
	return slices.Compact(l)
}

// P8.4: Get of Put, whatever stands behind, is the number, and Size.
func TestGetOfPut(t *testing.T) {
	d := dice(15)
	for _, n := range some() {
		b := sdnv.Put(nil, n)
		gets(t, "put", b, n, sdnv.Size(n))
		for range 4 {
			behind := row(d.below(4), byte(d.below(256)), byte(d.below(256)))
			gets(t, "put, with bytes behind", slices.Concat(b, behind), n, sdnv.Size(n))
		}
	}
}

// P8.4: what Get tells, put, is the bytes that it had.
func TestPutOfGet(t *testing.T) {
	d := dice(17)
	count := 0
	for range 40000 {
		var b []byte
		for range d.below(12) {
			b = append(b, byte(d.below(256))|byte(d.below(5)+3)/4<<7)
		}
		n, k, e := sdnv.Get(b)
		if e != api.OK {
			continue
		}
		count++
		if got := sdnv.Put(nil, n); !bytes.Equal(got, b[:k]) || sdnv.Size(n) != k {
			t.Fatalf("Get %s: %d, %d bytes; put it is % x", cut(b), n, k, got)
		}
	}
	if count < 2000 {
		t.Errorf("only %d of the rows begin with a number", count)
	}
}

// P8.4: a greater number never has fewer bytes, and has one more at each step of a length.
func TestGreaterIsNeverShorter(t *testing.T) {
	l := some()
	for i, n := range l[1:] {
		if sdnv.Size(n) < sdnv.Size(l[i]) || len(sdnv.Put(nil, n)) < len(sdnv.Put(nil, l[i])) {
			t.Errorf("%d has %d bytes, %d has %d", l[i], sdnv.Size(l[i]), n, sdnv.Size(n))
		}
	}
	for i := 1; i < 10; i++ {
		n := uint64(1) << (7 * i)
		if sdnv.Size(n-1) != i || sdnv.Size(n) != i+1 {
			t.Errorf("%d has %d bytes, %d has %d; want %d and one more", n-1, sdnv.Size(n-1), n, sdnv.Size(n), i)
		}
	}
}

// P8.4: no number's bytes are the begin of another one's. Sorted as bytes, a begin would stand right ahead of a row that has it.
func TestNoneIsTheBeginOfAnother(t *testing.T) {
	var rows [][]byte
	for _, n := range some() {
		rows = append(rows, sdnv.Put(nil, n))
	}
	for n := range uint64(1 << 15) {
		rows = append(rows, sdnv.Put(nil, n<<49|n))
	}
	slices.SortFunc(rows, bytes.Compare)
	rows = slices.CompactFunc(rows, bytes.Equal)
	for i, b := range rows[1:] {
		if bytes.HasPrefix(b, rows[i]) {
			t.Errorf("% x is the begin of % x", rows[i], b)
		}
	}
}

// P8.4: so rows of numbers come back, however they are put.
func TestRowsOfRow(t *testing.T) {
	d := dice(19)
	for range 300 {
		var l []uint64
		var b []byte
		for range d.below(40) {
			l = append(l, d.number())
			b = sdnv.Put(b, l[len(l)-1])
		}
		if got := sdnv.Row(l); !bytes.Equal(got, b) {
			t.Fatalf("Row of %d: %s; put one by one %s", l, cut(got), cut(b))
		}
		getsRow(t, "of a row", append(b, 0x80), len(l), l, len(b))
	}
}
