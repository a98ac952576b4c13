package sum_test

import (
	"bytes"
	"hash/crc32"
	"testing"

	"heliograph/api"
	"heliograph/sum"
)

// kinds are the calls of both sums, as one shape. poly is the sum's polynomial without its first bit, the highest power first.
var kinds = []struct {
	name string
	size int
	poly uint64
	sum  func(b []byte) uint64
	seal func(b []byte) []byte
	open func(b []byte) ([]byte, api.Errno)
}{
	{"16", 2, 0x1021, func(b []byte) uint64 { return uint64(sum.Sum16(b)) }, sum.Seal16, sum.Open16},
	{"32", 4, 0x1EDC6F41, func(b []byte) uint64 { return uint64(sum.Sum32(b)) }, sum.Seal32, sum.Open32},
}

// dice is a row of numbers that is the same at each run.
type dice uint64

func (d *dice) next() uint64 {
	*d = *d*6364136223846793005 + 1442695040888963407
	return uint64(*d >> 32)
}

func some(n int) []byte {
	d := dice(n)
	b := make([]byte, n)
	for i := range b {
		b[i] = byte(d.next())
	}
	return b
}

func same(t *testing.T, what string, got, want []byte) {
	t.Helper()
	if !bytes.Equal(got, want) {
		t.Errorf("%s: % x, want % x", what, got, want)
	}
}

func opens(t *testing.T, what string, open func([]byte) ([]byte, api.Errno), b, want []byte) {
	t.Helper()
	got, e := open(b)
	if e != api.OK {
		t.Errorf("%s: error %d", what, e)
	}
	same(t, what, got, want)
}

func refuses(t *testing.T, what string, open func([]byte) ([]byte, api.Errno), b []byte, want api.Errno) {
	t.Helper()
	got, e := open(b)
	if e != want || len(got) != 0 {
		t.Errorf("%s (% x): % x, error %d; want no bytes, error %d", what, b, got, e, want)
	}
}

// divided tells a sum in another way than by steps: the bits of all bytes, the lowest of each first, are a polynomial that is divided; its first bits and what is left over at the end are turned.
func divided(b []byte, width int, poly uint64) uint64 {
	row := make([]bool, 8*len(b)+width)
	for i := range 8 * len(b) {
		row[i] = b[i/8]>>(i%8)&1 == 1
	}
	for i := range width {
		row[i] = !row[i]
	}
	for i := range 8 * len(b) {
		if !row[i] {
			continue
		}
		for k := range width {
			if poly>>(width-1-k)&1 == 1 {
				row[i+1+k] = !row[i+1+k]
			}
		}
	}
	var x uint64
	for k := range width {
		if !row[8*len(b)+k] {
			x |= 1 << k
		}
	}
	return x
}

// P3.1: the chapter's examples, and sums that others tell of the same two checksums.
func TestSumsOfKnownBytes(t *testing.T) {
	rows := []struct {
		b   []byte
		s16 uint16
		s32 uint32
	}{
		{nil, 0, 0},
		{[]byte{}, 0, 0},
		{[]byte("123456789"), 36974, 3808858755},
		{[]byte{0}, 0xF078, 0x527D5351},
		{make([]byte, 32), 0xCD70, 0x8A9136AA},
		{bytes.Repeat([]byte{0xff}, 32), 0xE051, 0x62A8AB43},
	}
	for _, r := range rows {
		if got := sum.Sum16(r.b); got != r.s16 {
			t.Errorf("Sum16 of % x: %x, want %x", r.b, got, r.s16)
		}
		if got := sum.Sum32(r.b); got != r.s32 {
			t.Errorf("Sum32 of % x: %x, want %x", r.b, got, r.s32)
		}
	}
}

// P3.1: each single byte, and lists of all small lengths.
func TestSumsAreWhatADivisionLeaves(t *testing.T) {
	var lists [][]byte
	for x := range 256 {
		lists = append(lists, []byte{byte(x)})
	}
	for n := range 70 {
		lists = append(lists, some(n), make([]byte, n), bytes.Repeat([]byte{0xff}, n))
	}
	for _, k := range kinds {
		for _, b := range lists {
			if got, want := k.sum(b), divided(b, 8*k.size, k.poly); got != want {
				t.Fatalf("Sum%s of % x: %x, want %x", k.name, b, got, want)
			}
		}
	}
}

// P3.1: a list of great length.
func TestSumsOfManyBytes(t *testing.T) {
	b := some(3<<20 + 1)
	if got, want := sum.Sum32(b), crc32.Checksum(b, crc32.MakeTable(crc32.Castagnoli)); got != want {
		t.Errorf("Sum32: %x, want %x", got, want)
	}
	short := b[:1<<17+3]
	if got, want := uint64(sum.Sum16(short)), divided(short, 16, 0x1021); got != want {
		t.Errorf("Sum16: %x, want %x", got, want)
	}
	for _, k := range kinds {
		opens(t, "Open"+k.name, k.open, k.seal(b), b)
	}
}

// P3.2: the lowest byte of the sum stands first.
func TestSealPutsTheSumBehind(t *testing.T) {
	b := []byte("123456789")
	same(t, "Seal16", sum.Seal16(b), append([]byte("123456789"), 0x6E, 0x90))
	same(t, "Seal32", sum.Seal32(b), append([]byte("123456789"), 0x83, 0x92, 0x06, 0xE3))
	same(t, "Seal16 of 00", sum.Seal16([]byte{0}), []byte{0, 0x78, 0xF0})
	same(t, "Seal32 of 00", sum.Seal32([]byte{0}), []byte{0, 0x51, 0x53, 0x7D, 0x52})
	same(t, "Seal16 of no bytes", sum.Seal16(nil), []byte{0, 0})
	same(t, "Seal32 of no bytes", sum.Seal32([]byte{}), []byte{0, 0, 0, 0})
}

// P3.2, R2: fewer bytes than a sum has are ErrShort, whatever they are, and never ErrSum.
func TestOpenOfTooFewBytes(t *testing.T) {
	for _, k := range kinds {
		refuses(t, "Open"+k.name+" of nil", k.open, nil, api.ErrShort)
		for n := range k.size {
			refuses(t, "Open"+k.name, k.open, make([]byte, n), api.ErrShort)
			refuses(t, "Open"+k.name, k.open, bytes.Repeat([]byte{0xff}, n), api.ErrShort)
		}
	}
	// Enough for 16 is too little for 32.
	refuses(t, "Open32 of what Seal16 sealed", sum.Open32, sum.Seal16([]byte{7}), api.ErrShort)
	refuses(t, "Open32, one byte too few", sum.Open32, sum.Seal32(nil)[:3], api.ErrShort)
}

// P3.2: exactly the bytes of a sum: only that of no bytes is right.
func TestOpenOfASumAlone(t *testing.T) {
	opens(t, "Open16 of 00 00", sum.Open16, make([]byte, 2), nil)
	opens(t, "Open32 of 00 00 00 00", sum.Open32, make([]byte, 4), nil)
	for x := 1; x < 1<<16; x++ {
		hi, lo := byte(x>>8), byte(x)
		refuses(t, "Open16", sum.Open16, []byte{hi, lo}, api.ErrSum)
		refuses(t, "Open32", sum.Open32, []byte{hi, lo, 0, 0}, api.ErrSum)
		refuses(t, "Open32", sum.Open32, []byte{0, 0, hi, lo}, api.ErrSum)
	}
}

// P3.2: what was never sealed, was sealed by the other sum, or was cut.
func TestOpenOfWrongBytes(t *testing.T) {
	b := []byte("123456789")
	refuses(t, "Open16, the highest byte first", sum.Open16, append([]byte("123456789"), 0x90, 0x6E), api.ErrSum)
	refuses(t, "Open32, the highest byte first", sum.Open32, append([]byte("123456789"), 0xE3, 0x06, 0x92, 0x83), api.ErrSum)
	refuses(t, "Open16 of what Seal32 sealed", sum.Open16, sum.Seal32(b), api.ErrSum)
	refuses(t, "Open32 of what Seal16 sealed", sum.Open32, sum.Seal16(b), api.ErrSum)
	for _, k := range kinds {
		sealed := k.seal(b)
		refuses(t, "Open"+k.name+" without the sum", k.open, b, api.ErrSum)
		refuses(t, "Open"+k.name+", the last byte gone", k.open, sealed[:len(sealed)-1], api.ErrSum)
		refuses(t, "Open"+k.name+", the first byte gone", k.open, sealed[1:], api.ErrSum)
		refuses(t, "Open"+k.name+", a byte behind", k.open, append(k.seal(b), 0), api.ErrSum)
	}
}

// P3.3.
func TestWhatWasSealedIsOpened(t *testing.T) {
	for _, k := range kinds {
		for n := range 300 {
			for _, b := range [][]byte{some(n), make([]byte, n)} {
				opens(t, "Open"+k.name, k.open, k.seal(b), b)
				opens(t, "Open"+k.name+" twice", k.open, first(k.open(k.seal(k.seal(b)))), b)
			}
		}
	}
}

func first(b []byte, _ api.Errno) []byte {
	return b
}

func turn(b []byte, bit int) {
	b[bit/8] ^= 1 << (bit % 8)
}

// P3.3: one bit, and two that lie within 8 bytes of one another, also across the border and within the sum.
func TestOneAndTwoBitsTurned(t *testing.T) {
	for _, k := range kinds {
		for _, n := range []int{0, 1, 2, 9, 24} {
			b := k.seal(some(n))
			for i := range 8 * len(b) {
				turn(b, i)
				refuses(t, "one bit, Open"+k.name, k.open, b, api.ErrSum)
				for j := i + 1; j < 8*len(b) && j/8-i/8 <= 8; j++ {
					turn(b, j)
					refuses(t, "two bits, Open"+k.name, k.open, b, api.ErrSum)
					turn(b, j)
				}
				turn(b, i)
			}
			opens(t, "turned back, Open"+k.name, k.open, b, some(n))
		}
	}
}

// P3.3: all ways to turn bits within two bytes side by side; of 32 these are within four, too.
func TestBitsTurnedWithinTwoBytes(t *testing.T) {
	for _, k := range kinds {
		for _, n := range []int{0, 1, 6} {
			b := k.seal(some(n))
			for at := range len(b) - 1 {
				for x := 1; x < 1<<16; x++ {
					b[at] ^= byte(x)
					b[at+1] ^= byte(x >> 8)
					if got, e := k.open(b); e != api.ErrSum || len(got) != 0 {
						t.Fatalf("Open%s, %04x turned at %d: error %d", k.name, x, at, e)
					}
					b[at] ^= byte(x)
					b[at+1] ^= byte(x >> 8)
				}
			}
			opens(t, "turned back, Open"+k.name, k.open, b, some(n))
		}
	}
}

// P3.3: within four bytes side by side, of 32: many ways, at each place, the first and the last of the four among those that are turned.
func TestBitsTurnedWithinFourBytes(t *testing.T) {
	d := dice(32)
	for _, n := range []int{0, 1, 3, 9, 40} {
		b := sum.Seal32(some(n))
		for at := range len(b) - 3 {
			for range 5000 {
				x := uint32(d.next()) | 1<<(d.next()%8) | 1<<(24+d.next()%8)
				turnFour(b[at:], x)
				refuses(t, "four bytes, Open32", sum.Open32, b, api.ErrSum)
				turnFour(b[at:], x)
			}
		}
		opens(t, "turned back, Open32", sum.Open32, b, some(n))
	}
}

func turnFour(b []byte, x uint32) {
	for i := range 4 {
		b[i] ^= byte(x >> (8 * i))
	}
}

// R3: what is handed in is neither changed nor kept, the room behind its end neither.
func TestSealAnswersNewMemory(t *testing.T) {
	for _, k := range kinds {
		for _, n := range []int{0, 1, 5} {
			room := bytes.Repeat([]byte{0xee}, 20)
			b := room[:n]
			one, two := k.seal(b), k.seal(b)
			k.sum(b)
			same(t, "what Seal"+k.name+" was handed", room, bytes.Repeat([]byte{0xee}, 20))
			want := bytes.Clone(two)
			clear(one[:cap(one)])
			same(t, "what Seal"+k.name+" was handed, its answer changed", room, bytes.Repeat([]byte{0xee}, 20))
			same(t, "the other answer of Seal"+k.name, two, want)
			clear(room)
			same(t, "what Seal"+k.name+" answered, its argument changed", two, want)
		}
	}
}

// R3: the same of what was sealed.
func TestOpenAnswersNewMemory(t *testing.T) {
	for _, k := range kinds {
		for _, n := range []int{0, 1, 5} {
			body := some(n)
			room := append(k.seal(body), 0xee, 0xee, 0xee)
			before := bytes.Clone(room)
			b := room[:n+k.size]
			one, _ := k.open(b)
			two, _ := k.open(b)
			same(t, "what Open"+k.name+" was handed", room, before)
			_ = append(one, 1, 2, 3, 4, 5, 6)
			clear(one[:cap(one)])
			same(t, "what Open"+k.name+" was handed, its answer changed", room, before)
			same(t, "the other answer of Open"+k.name, two, body)
			clear(room)
			same(t, "what Open"+k.name+" answered, its argument changed", two, body)
		}
	}
}

// R3: a call that refuses changes nothing either.
func TestRefusedBytesStayAsTheyWere(t *testing.T) {
	for _, k := range kinds {
		for n := range 8 {
			room := bytes.Repeat([]byte{0xee}, 20)
			want := api.ErrSum
			if n < k.size {
				want = api.ErrShort
			}
			refuses(t, "Open"+k.name, k.open, room[:n], want)
			same(t, "what Open"+k.name+" refused", room, bytes.Repeat([]byte{0xee}, 20))
		}
	}
}
