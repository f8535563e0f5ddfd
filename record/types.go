package record

import (
	"math/bits"

	"bureau/api"
	"bureau/value"
)

// The types of a record's values; an integer of 1 to 8 bytes has their number as its type.
const (
	typeNull  = 0
	typeWhole = 8 // the widest integer
	typeZero  = 9 // 0, which needs no bytes; 1 has the next type
	typeOne   = 10
	typeBlob  = 12 // plus twice the number of bytes
	typeText  = 13 // plus twice the number of bytes
)

// typeOf is the one type that a value has.
func typeOf(v api.Value) uint64 {
	switch v.Kind {
	case api.KindInt:
		if v.Int == 0 || v.Int == 1 {
			return typeZero + uint64(v.Int)
		}
		return uint64(width(v.Int))
	case api.KindText:
		return typeText + 2*uint64(len(v.Text))
	case api.KindBlob:
		return typeBlob + 2*uint64(len(v.Text))
	}
	return typeNull
}

// width is how many bytes an integer needs: those of its bits that are not its sign's, and one bit for this.
func width(n int64) int {
	return bits.Len64(uint64(n^n>>63))/8 + 1
}

// appendBytes lays a value's bytes behind others.
func appendBytes(b []byte, v api.Value) []byte {
	if t := typeOf(v); t <= typeWhole {
		for shift := 8 * int(t); shift > 0; {
			shift -= 8
			b = append(b, byte(v.Int>>shift))
		}
	}
	return append(b, v.Text...)
}

// readValue reads the value of a type. One that has another type than this (an integer in more bytes than it needs, 0 and 1 in a byte, what is left NULL as the type is none) is in no record so.
func readValue(t uint64, take func(n int) string) (v api.Value) {
	switch {
	case t == typeNull:
		return v
	case t <= typeWhole:
		v = value.Int(integer(take(int(t))))
	case t == typeZero, t == typeOne:
		v = value.Int(int64(t - typeZero))
	case t >= typeBlob:
		v = readText(t-typeBlob, take)
	}
	must(typeOf(v) == t)
	return v
}

// readText reads a blob or, by the lowest bit, a text. Its number of bytes is held against the limit while it is still any uint64.
func readText(size uint64, take func(n int) string) api.Value {
	must(size>>1 <= api.MaxValue)
	v := api.Value{Kind: api.KindBlob, Text: take(int(size >> 1))}
	if size&1 == 1 {
		v.Kind = api.KindText
	}
	return v
}

// integer is the number that bytes, the highest first, are in two's complement.
func integer(s string) (n int64) {
	n = int64(int8(s[0]))
	for i := 1; i < len(s); i++ {
		n <<= 8
		n |= int64(s[i])
	}
	return n
}
