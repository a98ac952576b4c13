package sdnv_test

import (
	"bytes"
	"fmt"
	"math"
	"math/big"
	"slices"
	"testing"

	"heliograph/api"
	"heliograph/sdnv"
)

// known are numbers at each step of a length, and their bytes as they were reckoned by hand.
func known() map[uint64][]byte {
	return map[uint64][]byte{
		0:                  {0x00},
		1:                  {0x01},
		5:                  {0x05},
		126:                {0x7e},
		127:                {0x7f},
		128:                {0x81, 0x00},
		129:                {0x81, 0x01},
		255:                {0x81, 0x7f},
		256:                {0x82, 0x00},
		300:                {0x82, 0x2c},
		16383:              {0xff, 0x7f},
		16384:              {0x81, 0x80, 0x00},
		1<<21 - 1:          {0xff, 0xff, 0x7f},
		1 << 21:            {0x81, 0x80, 0x80, 0x00},
		1<<28 - 1:          {0xff, 0xff, 0xff, 0x7f},
		1 << 28:            {0x81, 0x80, 0x80, 0x80, 0x00},
		math.MaxUint32:     {0x8f, 0xff, 0xff, 0xff, 0x7f},
		math.MaxUint32 + 1: {0x90, 0x80, 0x80, 0x80, 0x00},
		1<<35 - 1:          {0xff, 0xff, 0xff, 0xff, 0x7f},
		1 << 35:            {0x81, 0x80, 0x80, 0x80, 0x80, 0x00},
		1<<42 - 1:          {0xff, 0xff, 0xff, 0xff, 0xff, 0x7f},
		1 << 42:            {0x81, 0x80, 0x80, 0x80, 0x80, 0x80, 0x00},
		1<<49 - 1:          {0xff, 0xff, 0xff, 0xff, 0xff, 0xff, 0x7f},
		1 << 49:            {0x81, 0x80, 0x80, 0x80, 0x80, 0x80, 0x80, 0x00},
		1<<56 - 1:          {0xff, 0xff, 0xff, 0xff, 0xff, 0xff, 0xff, 0x7f},
		1 << 56:            {0x81, 0x80, 0x80, 0x80, 0x80, 0x80, 0x80, 0x80, 0x00},
		math.MaxInt64:      {0xff, 0xff, 0xff, 0xff, 0xff, 0xff, 0xff, 0xff, 0x7f},
		math.MaxInt64 + 1:  {0x81, 0x80, 0x80, 0x80, 0x80, 0x80, 0x80, 0x80, 0x80, 0x00},
		math.MaxUint64 - 1: {0x81, 0xff, 0xff, 0xff, 0xff, 0xff, 0xff, 0xff, 0xff, 0x7e},
		math.MaxUint64:     {0x81, 0xff, 0xff, 0xff, 0xff, 0xff, 0xff, 0xff, 0xff, 0x7f},
	}
}

// plain are the bytes of a number, told once more: by dividing, each digit put ahead of those that are there.
func plain(n uint64) []byte {
	b := []byte{byte(n - n/128*128)}
	for n /= 128; n != 0; n /= 128 {
		b = append([]byte{byte(128 + n - n/128*128)}, b...)
	}
	return b
}

// told is Get, told once more: the digits are reckoned in numbers that have no end.
func told(b []byte) (uint64, int, api.Errno) {
	if bytes.HasPrefix(b, []byte{128}) {
		return 0, 0, api.ErrSdnv
	}
	n := new(big.Int)
	for i := range b {
		n.Mul(n, big.NewInt(128))
		n.Add(n, big.NewInt(int64(b[i]&127)))
		if !n.IsUint64() {
			return 0, 0, api.ErrLong
		}
		if b[i]&128 == 0 {
			return n.Uint64(), i + 1, api.OK
		}
	}
	return 0, 0, api.ErrShort
}

// row is first, and behind it n times the same byte.
func row(n int, same byte, first ...byte) []byte {
	return append(slices.Clone(first), bytes.Repeat([]byte{same}, n)...)
}

// cut tells bytes without all of them.
func cut(b []byte) string {
	return fmt.Sprintf("(%d) % x", len(b), b[:min(24, len(b))])
}

// gets asks for a number, and how many bytes it has.
func gets(t *testing.T, what string, b []byte, want uint64, size int) {
	t.Helper()
	n, k, e := sdnv.Get(b)
	if n != want || k != size || e != api.OK {
		t.Errorf("%s: Get %s: %d, %d bytes, error %d; want %d, %d", what, cut(b), n, k, e, want, size)
	}
}

// refuses asks for an error, and zeros beside it.
func refuses(t *testing.T, what string, b []byte, want api.Errno) {
	t.Helper()
	n, k, e := sdnv.Get(b)
	if n != 0 || k != 0 || e != want {
		t.Errorf("%s: Get %s: %d, %d bytes, error %d; want nothing, error %d", what, cut(b), n, k, e, want)
	}
}

// asTold holds Get against what is told.
func asTold(t *testing.T, what string, b []byte) api.Errno {
	t.Helper()
	n, k, e := told(b)
	if e != api.OK {
		refuses(t, what, b, e)
	} else {
		gets(t, what, b, n, k)
	}
	return e
}

// getsRow asks for numbers, and how many bytes they have together.
func getsRow(t *testing.T, what string, b []byte, n int, want []uint64, size int) {
	t.Helper()
	l, k, e := sdnv.Rows(b, n)
	if !slices.Equal(l, want) || k != size || e != api.OK {
		t.Errorf("%s: Rows %s, %d: %d numbers %d, %d bytes, error %d; want %d numbers %d, %d", what, cut(b), n, len(l), l[:min(8, len(l))], k, e, len(want), want[:min(8, len(want))], size)
	}
}

// refusesRow asks for an error, and zeros beside it.
func refusesRow(t *testing.T, what string, b []byte, n int, want api.Errno) {
	t.Helper()
	l, k, e := sdnv.Rows(b, n)
	if len(l) != 0 || k != 0 || e != want {
		t.Errorf("%s: Rows %s, %d: %d numbers, %d bytes, error %d; want nothing, error %d", what, cut(b), n, len(l), k, e, want)
	}
}

// dice is a row of numbers that is the same at each run.
type dice uint64

func (d *dice) below(n int) int {
	*d = *d*6364136223846793005 + 1442695040888963407
	return int(uint64(*d>>33) % uint64(n))
}

// number is a number of any length in bits.
func (d *dice) number() uint64 {
	n := uint64(d.below(1<<31))<<33 ^ uint64(d.below(1<<31))<<16 ^ uint64(d.below(1<<16))
	return n >> d.below(64)
}

// steps are the known numbers, and those beside each power of two.
func steps() []uint64 {
	var l []uint64
	for n := range known() {
		l = append(l, n)
	}
	for i := range 64 {
		p := uint64(1) << i
		l = append(l, p-1, p, p+1, -p)
	}
	slices.Sort(l)
	return slices.Compact(l)
}
