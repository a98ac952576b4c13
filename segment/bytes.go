package segment

import (
	"bytes"
	"math"

	"heliograph/api"
	"heliograph/octet"
	"heliograph/sdnv"
	"heliograph/sum"
)

const (
	sumSize   = 4
	leastSize = 3 + sumSize // Kind, Source and Session in a byte each
)

// writer is bytes behind which more are put.
type writer struct {
	bytes []byte
}

// Encode answers the segment's bytes (P10.2).
func Encode(s api.Segment) ([]byte, api.Errno) {
	if e := Check(s); e != api.OK {
		return nil, e
	}
	w := writer{bytes: []byte{byte(s.Kind)}}
	w.put(uint64(s.Source), uint64(s.Session))
	switch s.Kind {
	case api.SegData:
		w.data(s)
	case api.SegReport:
		w.report(s)
	case api.SegReportAck:
		w.put(uint64(s.Serial))
	case api.SegCancel, api.SegStop:
		w.put(uint64(s.Reason))
	}
	return octet.Put32(w.bytes, sum.Sum32(w.bytes)), api.OK
}

func (w *writer) put(numbers ...uint64) {
	w.bytes = append(w.bytes, sdnv.Row(numbers)...)
}

func (w *writer) data(s api.Segment) {
	if s.Check {
		w.put(1, uint64(s.Serial))
	} else {
		w.put(0)
	}
	w.put(uint64(s.Offset), uint64(s.Total), uint64(len(s.Data)))
	w.bytes = append(w.bytes, s.Data...)
}

func (w *writer) report(s api.Segment) {
	w.put(uint64(s.Serial), uint64(s.Checks), uint64(s.Lower), uint64(s.Upper), uint64(len(s.Claims)))
	for _, c := range s.Claims {
		w.put(uint64(c.At), uint64(c.N))
	}
}

// Size answers how many bytes the segment has, 0 if it may not be (P10.2).
func Size(s api.Segment) int {
	b, _ := Encode(s)
	return len(b)
}

// Decode answers the segment whose bytes b are (P10.3).
func Decode(b []byte) (api.Segment, api.Errno) {
	if len(b) < leastSize {
		return api.Segment{}, api.ErrShort
	}
	n := len(b) - sumSize
	if octet.Read(b[n:]).U32() != sum.Sum32(b[:n]) {
		return api.Segment{}, api.ErrSum
	}
	s, ok := read(b[:n])
	if !ok || Check(s) != api.OK {
		return api.Segment{}, api.ErrSegment
	}
	return s, api.OK
}

// read answers what b says, be it a segment that may be or not; false, if b is not just that.
func read(b []byte) (api.Segment, bool) {
	r := reader{left: b[1:]}
	s := api.Segment{Kind: int(b[0]), Source: int(r.number(api.MaxNodes)), Session: r.long()}
	switch s.Kind {
	case api.SegData:
		r.data(&s)
	case api.SegReport:
		r.report(&s)
	case api.SegReportAck:
		s.Serial = r.long()
	case api.SegCancel, api.SegStop:
		s.Reason = int(r.number(maxReason))
	}
	return s, !r.bad && len(r.left) == 0
}

// reader takes numbers and bytes from the front. Behind what is wrong there is nothing left to take, so that it is enough to ask at the end.
type reader struct {
	left []byte
	bad  bool
}

// number takes a number that is at most so great: no greater one is cut to the size of a field.
func (r *reader) number(most uint64) uint64 {
	n, size, e := sdnv.Get(r.left)
	if e != api.OK || n > most {
		goto wrong
	}
	r.left = r.left[size:]
	return n
wrong:
	*r = reader{bad: true}
	return 0
}

func (r *reader) long() uint32 {
	return uint32(r.number(math.MaxUint32))
}

// place takes where something in a block is, or how long it is.
func (r *reader) place() int {
	return int(r.number(api.MaxBlock))
}

// raw takes n bytes, as new memory.
func (r *reader) raw(n int) []byte {
	var b []byte
	if n > len(r.left) {
		goto wrong
	}
	b, r.left = bytes.Clone(r.left[:n]), r.left[n:]
	return b
wrong:
	*r = reader{bad: true}
	return nil
}

func (r *reader) data(s *api.Segment) {
	s.Check = r.number(1) == 1
	if s.Check {
		s.Serial = r.long()
	}
	s.Offset, s.Total = r.place(), r.place()
	s.Data = r.raw(int(r.number(api.MaxData)))
}

func (r *reader) report(s *api.Segment) {
	s.Serial, s.Checks = r.long(), r.long()
	s.Lower, s.Upper = r.place(), r.place()
	for range r.number(api.MaxClaims) {
		s.Claims = append(s.Claims, api.Claim{At: r.place(), N: r.place()})
	}
}
