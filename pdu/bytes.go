package pdu

import (
	"heliograph/api"
	"heliograph/octet"
)

// Encode answers the message's bytes (P11.2).
func Encode(m api.Message) ([]byte, api.Errno) {
	if e := Check(m); e != api.OK {
		return nil, e
	}
	f := fieldsOf(m.Kind)
	b := octet.Put32([]byte{byte(m.Kind)}, m.Number)
	if f.has(hasName) {
		b = append(b, byte(len(m.Name)))
		b = append(b, m.Name...)
	}
	if f.has(hasSize) {
		b = octet.Put16(b, uint16(m.Size))
	}
	if f.has(hasOffset) {
		b = octet.Put16(b, uint16(m.Offset))
	}
	if f.has(hasSum) {
		b = octet.Put32(b, m.Sum)
	}
	if f.has(hasCode) {
		b = append(b, byte(m.Code))
	}
	if f.has(hasBytes) {
		b = octet.Put16(b, uint16(len(m.Bytes)))
		b = append(b, m.Bytes...)
	}
	return b, api.OK
}

// Decode answers the message whose bytes b are (P11.2).
func Decode(b []byte) (api.Message, api.Errno) {
	if len(b) > 0 && fieldsOf(int(b[0])) == 0 {
		return api.Message{}, api.ErrMessage
	}
	r := octet.Read(b)
	m := read(r)
	// Whether the bytes end too early goes ahead of whether what they begin with may be.
	if e := r.Err(); e != api.OK {
		return api.Message{}, e
	}
	if r.Left() > 0 || Check(m) != api.OK {
		return api.Message{}, api.ErrMessage
	}
	return m, api.OK
}

// read answers what the bytes begin with, be it a message that may be or not.
func read(r *octet.Reader) api.Message {
	m := api.Message{Kind: int(r.U8()), Number: r.U32()}
	f := fieldsOf(m.Kind)
	if f.has(hasName) {
		m.Name = string(r.Raw(int(r.U8())))
	}
	if f.has(hasSize) {
		m.Size = int(r.U16())
	}
	if f.has(hasOffset) {
		m.Offset = int(r.U16())
	}
	if f.has(hasSum) {
		m.Sum = r.U32()
	}
	if f.has(hasCode) {
		m.Code = int(r.U8())
	}
	if f.has(hasBytes) {
		m.Bytes = r.Raw(int(r.U16()))
	}
	return m
}
