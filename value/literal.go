package value

import (
	"strconv"
	"strings"

	"bureau/api"
)

const (
	nullLiteral = "NULL"
	quote       = "'"
	twoQuotes   = "''"
	blobBegin   = "x'"
	comma       = ","
	hexDigits   = "0123456789abcdef"
)

// Print tells a value's literal.
func Print(v api.Value) (string, api.Errno) {
	if !May(v) {
		return "", api.ErrArg
	}
	switch v.Kind {
	case api.KindInt:
		return strconv.FormatInt(v.Int, 10), api.OK
	case api.KindText:
		return quote + strings.ReplaceAll(v.Text, quote, twoQuotes) + quote, api.OK
	case api.KindBlob:
		return blobBegin + hex(v.Text) + quote, api.OK
	}
	return nullLiteral, api.OK
}

// Read tells the value whose literal s is. A text is taken only if it is just what Print writes of the value that it looks like.
func Read(s string) (api.Value, api.Errno) {
	if len(s) > api.MaxLiteral {
		return api.Value{}, api.ErrLong
	}
	v := guess(s)
	if again, e := Print(v); e != api.OK || again != s {
		return api.Value{}, api.ErrLit
	}
	return v, api.OK
}

// PrintRow tells the literals of a row's values.
func PrintRow(row ...api.Value) (string, api.Errno) {
	if e := Check(row...); e != api.OK {
		return "", e
	}
	literals := make([]string, len(row))
	for i, v := range row {
		literals[i], _ = Print(v) // Check has said that it may be
	}
	return strings.Join(literals, comma), api.OK
}

// guess is the one value whose literal s can be; if s is no literal, any value.
func guess(s string) api.Value {
	switch {
	case s == nullLiteral:
		return api.Value{}
	case strings.HasPrefix(s, quote):
		inner := strings.TrimSuffix(s[len(quote):], quote)
		return api.Value{Kind: api.KindText, Text: strings.ReplaceAll(inner, twoQuotes, quote)}
	case strings.HasPrefix(s, blobBegin):
		return api.Value{Kind: api.KindBlob, Text: unhex(s[len(blobBegin):])}
	}
	n, _ := strconv.ParseInt(s, 10, 64) // where it fails, n does not print as s
	return Int(n)
}

// hex writes each byte as two digits.
func hex(s string) string {
	digits := make([]byte, 0, 2*len(s))
	for i := range len(s) {
		digits = append(digits, hexDigits[s[i]>>4], hexDigits[s[i]&15])
	}
	return string(digits)
}

// unhex reads the bytes that hex wrote; of other digits it makes any bytes, and a single one at the end it leaves out.
func unhex(digits string) string {
	s := make([]byte, len(digits)/2)
	for i := range s {
		high, low := strings.IndexByte(hexDigits, digits[2*i]), strings.IndexByte(hexDigits, digits[2*i+1])
		s[i] = byte(high<<4 | low)
	}
	return string(s)
}
