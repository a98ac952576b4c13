package files_test

import (
	"bytes"
	"fmt"
	"math"
	"slices"
	"strings"
	"testing"

	"heliograph/api"
	"heliograph/files"
)

func encodes(t *testing.T, what string, f api.Files, want []byte) {
	t.Helper()
	got, e := files.Encode(f)
	if e != api.OK || !bytes.Equal(got, want) {
		t.Errorf("%s: Encode: % x, error %d; want % x", what, got, e, want)
	}
}

func decodes(t *testing.T, what string, b []byte, want api.Files) {
	t.Helper()
	got, e := files.Decode(b)
	if e != api.OK || !alike(got.List, want.List) {
		t.Errorf("%s: Decode: %s, error %d; want %s", what, short(got), e, short(want))
	}
}

func decodesNot(t *testing.T, what string, b []byte, want api.Errno) {
	t.Helper()
	before := bytes.Clone(b)
	got, e := files.Decode(b)
	if e != want || len(got.List) != 0 {
		t.Errorf("%s: Decode of % x: %s, error %d; want error %d", what, b[:min(len(b), 40)], short(got), e, want)
	}
	if !bytes.Equal(b, before) {
		t.Errorf("%s: Decode has changed what it was handed", what)
	}
}

// P5.4: the chapter's examples, and more bytes that are written out.
func TestBytesOfFiles(t *testing.T) {
	encodes(t, "b 01 03", list(file("b", 1, 3)), []byte{0, 1, 1, 0x62, 0, 2, 1, 3})
	decodesNot(t, "its first byte", []byte{0}, api.ErrShort)
	decodesNot(t, "00 00 00", []byte{0, 0, 0}, api.ErrFiles)
	rows := []struct {
		f api.Files
		b []byte
	}{
		{api.Files{}, []byte{0, 0}},
		{list(file("b", 1, 3)), []byte{0, 1, 1, 'b', 0, 2, 1, 3}},
		{list(file("a")), []byte{0, 1, 1, 'a', 0, 0}},
		{list(file("\x00", 0)), []byte{0, 1, 1, 0, 0, 1, 0}},
		{list(file("ab", 9), file("b\xff")), []byte{0, 2, 2, 'a', 'b', 0, 1, 9, 2, 'b', 0xff, 0, 0}},
	}
	for _, r := range rows {
		encodes(t, short(r.f), r.f, r.b)
		decodes(t, short(r.f), r.b, r.f)
	}
	b, _ := files.Encode(list(file(longest(), fill(1, 300)...)))
	if !bytes.Equal(b[:5], []byte{0, 1, 24, 'z', 'z'}) || !bytes.Equal(b[27:30], []byte{1, 0x2c, 32}) {
		t.Errorf("a name of 24 bytes, a file of 300: % x", b[:40])
	}
}

// P5.4, P5.6: what was encoded is decoded as it was; up to the edges.
func TestEncodedIsDecoded(t *testing.T) {
	for what, f := range right() {
		b, e := files.Encode(f)
		if e != api.OK || !bytes.Equal(b, plainFiles(f)) {
			t.Errorf("%s: error %d, or other bytes", what, e)
		}
		decodes(t, what, b, f)
	}
}

// P5.4, R2: Encode of what are no files.
func TestEncodeOfNoFiles(t *testing.T) {
	for what, f := range wrong() {
		if b, e := files.Encode(f); e != api.ErrFiles || len(b) != 0 {
			t.Errorf("%s: %d bytes, error %d; want ErrFiles", what, len(b), e)
		}
	}
}

// P5.4: cut off at each place it is ErrShort, with a byte behind it ErrFiles.
func TestDecodeOfBytesCutOff(t *testing.T) {
	for what, f := range right() {
		b := plainFiles(f)
		step := 1 + len(b)/600
		for n := 0; n < len(b); n += step {
			decodesNot(t, fmt.Sprint(what, ", cut at ", n), b[:n], api.ErrShort)
		}
		decodesNot(t, what+", the last byte gone", b[:len(b)-1], api.ErrShort)
		for x := range 256 {
			decodesNot(t, what+", a byte behind", append(bytes.Clone(b), byte(x)), api.ErrFiles)
		}
		decodesNot(t, what+", twice", append(bytes.Clone(b), b...), api.ErrFiles)
	}
	decodesNot(t, "nil", nil, api.ErrShort)
	decodesNot(t, "no bytes", []byte{}, api.ErrShort)
}

// P5.4: bytes that say whole rows of files which are none; cut off they are ErrShort, wherever what is wrong stands.
func TestDecodeOfWhatAreNoFiles(t *testing.T) {
	for what, f := range wrong() {
		if slices.ContainsFunc(f.List, func(x api.File) bool { return len(x.Name) > 255 || len(x.Bytes) > 65535 }) {
			continue // their counts can't be said
		}
		b := plainFiles(f)
		decodesNot(t, what, b, api.ErrFiles)
		step := 1 + len(b)/600
		for n := 0; n < len(b); n += step {
			decodesNot(t, fmt.Sprint(what, ", cut at ", n), b[:n], api.ErrShort)
		}
		decodesNot(t, what+", the last byte gone", b[:len(b)-1], api.ErrShort)
		decodesNot(t, what+", a byte behind", append(b, 0), api.ErrFiles)
	}
	decodesNot(t, "65 counted, none there", []byte{0, 65}, api.ErrShort)
	decodesNot(t, "65535 counted, none there", []byte{255, 255}, api.ErrShort)
	decodesNot(t, "a file of 65535 bytes", plainFiles(list(file("a", make([]byte, 65535)...))), api.ErrFiles)
	decodesNot(t, "65535 files", append([]byte{255, 255}, make([]byte, 3*65535)...), api.ErrFiles)
	decodesNot(t, "65535 files, a byte too few", append([]byte{255, 255}, make([]byte, 3*65535-1)...), api.ErrShort)
}

// readPlain is Decode, told once more: what the counts say, and where that ends.
func readPlain(b []byte) (f api.Files, e api.Errno) {
	take := func(n int) []byte {
		if e != api.OK || n > len(b) {
			e = api.ErrShort
			return make([]byte, 2)
		}
		x := b[:n]
		b = b[n:]
		return x
	}
	head := take(2)
	n := int(head[0])*256 + int(head[1])
	for i := 0; i < n && e == api.OK; i++ {
		s := string(take(int(take(1)[0])))
		c := take(2)
		f.List = append(f.List, file(s, take(int(c[0])*256+int(c[1]))...))
	}
	if e == api.OK && (len(b) > 0 || files.Check(f) != api.OK) {
		e = api.ErrFiles
	}
	return f, e
}

// P5.4: all rows of up to 8 small bytes, and many longer ones: what is decoded is encoded as it was.
func TestDecodeOfAllSmallRows(t *testing.T) {
	alphabet := []byte{0, 1, 2, 'a'}
	for n := range 9 {
		row := make([]byte, n)
		for x := range 1 << (2 * n) {
			for i := range row {
				row[i] = alphabet[x>>(2*i)&3]
			}
			holdDecode(t, row)
		}
	}
	d := dice(5)
	for range 200000 {
		row := make([]byte, 2+d.below(14))
		row[1] = byte(d.below(4))
		for i := range len(row) - 2 {
			row[2+i] = []byte{0, 0, 0, 1, 1, 2, 'a', 'b'}[d.below(8)]
		}
		holdDecode(t, row)
	}
}

func holdDecode(t *testing.T, row []byte) {
	t.Helper()
	want, e := readPlain(row)
	if e != api.OK {
		decodesNot(t, "a small row", row, e)
		return
	}
	decodes(t, "a small row", row, want)
	encodes(t, "a small row", want, row)
}

func encodesOps(t *testing.T, what string, l []api.FileOp, want []byte) {
	t.Helper()
	got, e := files.EncodeOps(l)
	if e != api.OK || !bytes.Equal(got, want) {
		t.Errorf("%s: EncodeOps: % x, error %d; want % x", what, got[:min(len(got), 40)], e, want[:min(len(want), 40)])
	}
}

func encodesNoOps(t *testing.T, what string, want api.Errno, l ...api.FileOp) {
	t.Helper()
	got, e := files.EncodeOps(l)
	if e != want || len(got) != 0 {
		t.Errorf("%s: EncodeOps: %d bytes, error %d; want error %d", what, len(got), e, want)
	}
}

func alikeOps(a, b []api.FileOp) bool {
	return slices.EqualFunc(a, b, func(x, y api.FileOp) bool {
		return x.Kind == y.Kind && x.Name == y.Name && x.New == y.New && x.At == y.At && bytes.Equal(x.Bytes, y.Bytes)
	})
}

func decodesOps(t *testing.T, what string, b []byte, want []api.FileOp) {
	t.Helper()
	got, e := files.DecodeOps(b)
	if e != api.OK || !alikeOps(got, want) {
		t.Errorf("%s: DecodeOps: %d operations, error %d; want %d", what, len(got), e, len(want))
	}
}

func decodesNoOps(t *testing.T, what string, b []byte) {
	t.Helper()
	before := bytes.Clone(b)
	got, e := files.DecodeOps(b)
	if e != api.ErrOps || len(got) != 0 {
		t.Errorf("%s: DecodeOps of % x: %d operations, error %d; want ErrOps", what, b[:min(len(b), 40)], len(got), e)
	}
	if !bytes.Equal(b, before) {
		t.Errorf("%s: DecodeOps has changed what it was handed", what)
	}
}

// rightOps are operations of each Kind, up to the edges.
func rightOps() map[string][]api.FileOp {
	return map[string][]api.FileOp{
		"nil":                     nil,
		"empty":                   {},
		"put":                     {put("a", 1)},
		"put of no bytes":         {put("a")},
		"put of empty bytes":      {put("a", []byte{}...)},
		"put of the longest":      {put(longest(), fill(1, api.MaxFile)...)},
		"write":                   {write("a", 1, 3)},
		"write at 0":              {write("a", 0, 3)},
		"write at 256":            {write("a", 256, 3)},
		"write at MaxFile":        {write("a", api.MaxFile, fill(1, api.MaxFile)...)},
		"write of no bytes":       {write("a", 7)},
		"name":                    {rename("a", "bc")},
		"name to itself":          {rename("a", "a")},
		"name to the longest":     {rename(longest(), strings.Repeat("\xff", api.MaxName))},
		"drop":                    {drop("a")},
		"drop of a nought":        {drop("\x00")},
		"one of each":             {put("a", 1), write("a", 1, 3), rename("a", "b"), drop("b")},
		"what Apply would refuse": {drop("x"), drop("x"), write("x", 9, 1), rename("x", "y")},
		"as many as may be":       slices.Repeat([]api.FileOp{drop("a")}, api.MaxOps),
		"the most bytes":          slices.Repeat([]api.FileOp{write(longest(), api.MaxFile, fill(2, api.MaxFile)...)}, api.MaxOps),
	}
}

// P5.5: bytes that are written out: At stands ahead of how many Bytes there are.
func TestBytesOfOperations(t *testing.T) {
	rows := []struct {
		l []api.FileOp
		b []byte
	}{
		{nil, []byte{0, 0}},
		{[]api.FileOp{}, []byte{0, 0}},
		{[]api.FileOp{put("a", 1)}, []byte{0, 1, 1, 1, 'a', 0, 1, 1}},
		{[]api.FileOp{put("a")}, []byte{0, 1, 1, 1, 'a', 0, 0}},
		{[]api.FileOp{write("ab", 258, 7, 8, 9)}, []byte{0, 1, 2, 2, 'a', 'b', 1, 2, 0, 3, 7, 8, 9}},
		{[]api.FileOp{write("a", 4096)}, []byte{0, 1, 2, 1, 'a', 16, 0, 0, 0}},
		{[]api.FileOp{rename("a", "bc")}, []byte{0, 1, 3, 1, 'a', 2, 'b', 'c'}},
		{[]api.FileOp{drop("\x00\xff")}, []byte{0, 1, 4, 2, 0, 0xff}},
		{[]api.FileOp{drop("a"), put("b", 5), drop("c")}, []byte{0, 3, 4, 1, 'a', 1, 1, 'b', 0, 1, 5, 4, 1, 'c'}},
	}
	for _, r := range rows {
		encodesOps(t, "written out", r.l, r.b)
		decodesOps(t, "written out", r.b, r.l)
	}
}

// P5.5, P5.6: what was encoded is decoded as it was; cut off at any place, or with a byte behind, it is ErrOps.
func TestOperationsEncodedAreDecoded(t *testing.T) {
	for what, l := range rightOps() {
		b := plainOps(l...)
		encodesOps(t, what, l, b)
		decodesOps(t, what, b, l)
		step := 1 + len(b)/600
		for n := 0; n < len(b); n += step {
			decodesNoOps(t, fmt.Sprint(what, ", cut at ", n), b[:n])
		}
		decodesNoOps(t, what+", the last byte gone", b[:len(b)-1])
		for x := range 8 {
			decodesNoOps(t, what+", a byte behind", append(bytes.Clone(b), byte(x)))
		}
	}
	decodesNoOps(t, "nil", nil)
	decodesNoOps(t, "no bytes", []byte{})
}

// P5.5: each field that a Kind's bytes do not say, not zero; each field that they do say, beyond its edges.
func TestEncodeOpsOfWhatIsNone(t *testing.T) {
	long := make([]byte, api.MaxFile+1)
	some := []byte{1}
	rows := []api.FileOp{
		{},
		{Kind: api.FilePut, Name: "a", New: "b", Bytes: some},
		{Kind: api.FilePut, Name: "a", New: "a", Bytes: some},
		{Kind: api.FilePut, Name: "a", New: longest() + "z", Bytes: some},
		{Kind: api.FilePut, Name: "a", At: 1, Bytes: some},
		{Kind: api.FilePut, Name: "a", At: -1, Bytes: some},
		{Kind: api.FilePut, Name: "a", At: math.MinInt, Bytes: some},
		{Kind: api.FilePut, Name: "a", Bytes: long},
		{Kind: api.FilePut, Name: "a", Bytes: make([]byte, 65536)},
		{Kind: api.FilePut, Name: "a", Bytes: make([]byte, 65537)},
		{Kind: api.FileWrite, Name: "a", New: "b", Bytes: some},
		{Kind: api.FileWrite, Name: "a", At: -1, Bytes: some},
		{Kind: api.FileWrite, Name: "a", At: api.MaxFile + 1, Bytes: some},
		{Kind: api.FileWrite, Name: "a", At: 65535, Bytes: some},
		{Kind: api.FileWrite, Name: "a", At: 65536, Bytes: some},
		{Kind: api.FileWrite, Name: "a", At: 65537, Bytes: some},
		{Kind: api.FileWrite, Name: "a", At: math.MinInt},
		{Kind: api.FileWrite, Name: "a", At: math.MaxInt},
		{Kind: api.FileWrite, Name: "a", Bytes: long},
		{Kind: api.FileName, Name: "a"},
		{Kind: api.FileName, Name: "a", New: longest() + "z"},
		{Kind: api.FileName, Name: "a", New: "b", At: 1},
		{Kind: api.FileName, Name: "a", New: "b", At: -1},
		{Kind: api.FileName, Name: "a", New: "b", Bytes: some},
		{Kind: api.FileName, Name: "a", New: "b", Bytes: []byte{0}},
		{Kind: api.FileDrop, Name: "a", New: "b"},
		{Kind: api.FileDrop, Name: "a", At: 1},
		{Kind: api.FileDrop, Name: "a", At: -1},
		{Kind: api.FileDrop, Name: "a", Bytes: some},
		{Kind: api.FileDrop, Name: "a", Bytes: []byte{0}},
	}
	for _, kind := range []int{0, -1, 5, 6, 255, 256, 257, 258, 259, 260, math.MinInt, math.MaxInt} {
		rows = append(rows, api.FileOp{Kind: kind, Name: "a"}, api.FileOp{Kind: kind, Name: "a", New: "b"}, api.FileOp{Kind: kind, Name: "a", Bytes: some})
	}
	for _, s := range []string{"", longest() + "z", strings.Repeat("y", 255), strings.Repeat("y", 256), strings.Repeat("y", 257)} {
		rows = append(rows, put(s, 1), write(s, 0, 1), rename(s, "b"), rename("a", s), drop(s))
	}
	for i, o := range rows {
		what := fmt.Sprint("row ", i)
		encodesNoOps(t, what, api.ErrOps, o)
		encodesNoOps(t, what+", behind a right one", api.ErrOps, drop("a"), o)
		encodesNoOps(t, what+", ahead of a right one", api.ErrOps, o, drop("a"))
		encodesNoOps(t, what+", the last one", api.ErrOps, append(slices.Repeat([]api.FileOp{drop("a")}, api.MaxOps-1), o)...)
		encodesNoOps(t, what+", one too many", api.ErrLong, append(slices.Repeat([]api.FileOp{drop("a")}, api.MaxOps), o)...)
	}
}

// P5.5: nil and empty are one: empty Bytes are no field that is not zero.
func TestEncodeOpsOfEmptyBytes(t *testing.T) {
	empty := []byte{}
	encodesOps(t, "FileDrop", []api.FileOp{{Kind: api.FileDrop, Name: "a", Bytes: empty}}, []byte{0, 1, 4, 1, 'a'})
	encodesOps(t, "FileName", []api.FileOp{{Kind: api.FileName, Name: "a", New: "b", Bytes: empty}}, []byte{0, 1, 3, 1, 'a', 1, 'b'})
}

// P5.5: one operation too many.
func TestTooManyOperations(t *testing.T) {
	more := slices.Repeat([]api.FileOp{drop("a")}, api.MaxOps+1)
	encodesNoOps(t, "one too many", api.ErrLong, more...)
	encodesNoOps(t, "many too many", api.ErrLong, slices.Repeat(more, 1100)...)
	decodesNoOps(t, "one too many", plainOps(more...))
	decodesNoOps(t, "65535", plainOps(slices.Repeat([]api.FileOp{drop("a")}, 65535)...))
	decodesNoOps(t, "65 counted, none there", []byte{0, 65})
	decodesNoOps(t, "64 counted, 63 there", append([]byte{0, 64}, plainOps(more[:63]...)[2:]...))
	decodesNoOps(t, "63 counted, 64 there", append([]byte{0, 63}, plainOps(more[:64]...)[2:]...))
	decodesNoOps(t, "256 counted more", append([]byte{1, 1}, plainOps(drop("a"))[2:]...))
}

// P5.5: bytes that say what EncodeOps would not take.
func TestDecodeOpsOfWhatIsNone(t *testing.T) {
	for kind := range 256 {
		for _, rest := range [][]byte{nil, {0, 1, 1}, {0, 0, 0, 1, 1}, {1, 'b'}} {
			want := map[int]int{api.FilePut: 3, api.FileWrite: 5, api.FileName: 2, api.FileDrop: 0}
			b := append([]byte{0, 1, byte(kind), 1, 'a'}, rest...)
			if n, there := want[kind]; there && n == len(rest) {
				if l, e := files.DecodeOps(b); e != api.OK || len(l) != 1 || l[0].Kind != kind {
					t.Errorf("% x: error %d", b, e)
				}
				continue
			}
			decodesNoOps(t, "a Kind or an end that is wrong", b)
		}
	}
	for _, s := range []string{"", longest() + "z", strings.Repeat("y", 255)} {
		for _, o := range []api.FileOp{put(s, 1), write(s, 0, 1), rename(s, "b"), rename("a", s), drop(s)} {
			decodesNoOps(t, fmt.Sprint("a name of ", len(s)), plainOps(o))
			decodesNoOps(t, fmt.Sprint("a name of ", len(s), " behind"), plainOps(drop("a"), o))
			decodesNoOps(t, fmt.Sprint("a name of ", len(s), " ahead"), plainOps(o, drop("a")))
		}
	}
	for _, n := range []int{api.MaxFile + 1, api.MaxFile + 256, 65535} {
		decodesNoOps(t, fmt.Sprint("put of ", n), plainOps(put("a", make([]byte, n)...)))
		decodesNoOps(t, fmt.Sprint("write of ", n), plainOps(write("a", 0, make([]byte, n)...)))
		decodesNoOps(t, fmt.Sprint("write at ", n), plainOps(write("a", n, 1)))
	}
}

// P5.5: each byte of right ones turned to each other one: what is decoded then is encoded as it was.
func TestDecodeOpsOfOtherBytes(t *testing.T) {
	b := plainOps(put("a", 1, 2), write("ab", 3, 4), rename("a", "b"), drop("c"))
	for i := range b {
		for x := range 256 {
			c := bytes.Clone(b)
			c[i] = byte(x)
			holdOps(t, c)
		}
	}
	d := dice(9)
	for range 200000 {
		c := make([]byte, 2+d.below(14))
		c[1] = byte(d.below(4))
		for i := range len(c) - 2 {
			c[2+i] = []byte{0, 0, 1, 1, 2, 3, 4, 'a'}[d.below(8)]
		}
		holdOps(t, c)
	}
}

func holdOps(t *testing.T, b []byte) {
	t.Helper()
	l, e := files.DecodeOps(b)
	if e == api.OK {
		encodesOps(t, "what was decoded", l, b)
	} else if e != api.ErrOps || len(l) != 0 {
		t.Errorf("DecodeOps of % x: %d operations, error %d", b, len(l), e)
	}
}
