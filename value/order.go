package value

import (
	"cmp"
	"strings"

	"bureau/api"
)

const blank = " "

// Cmp tells how a stands to b under a collation: -1 ahead, 0 the same, 1 behind.
func Cmp(a, b api.Value, c api.Coll) int {
	if !May(a) || !May(b) {
		return 0
	}
	if a.Kind != b.Kind {
		return cmp.Compare(a.Kind, b.Kind) // kinds are numbered in the order of values
	}
	return cmpOfOneKind(a, b, c)
}

// CmpRows tells how two rows stand, each place under its own collation.
func CmpRows(a, b []api.Value, colls ...api.Coll) int {
	for i := range min(len(a), len(b)) {
		c := api.CollBinary
		if i < len(colls) {
			c = colls[i]
		}
		if n := Cmp(a[i], b[i], c); n != 0 {
			return n
		}
	}
	return cmp.Compare(len(a), len(b))
}

// Equal tells whether two texts are the same under a collation.
func Equal(a, b string, c api.Coll) bool {
	return cmpBytes(counted(a, c), counted(b, c), byColl(c)) == 0
}

// cmpOfOneKind is Cmp of two values of the same kind.
func cmpOfOneKind(a, b api.Value, c api.Coll) int {
	stand := asBytes
	switch a.Kind {
	case api.KindText:
		a.Text, b.Text, stand = counted(a.Text, c), counted(b.Text, c), byColl(c)
		fallthrough
	case api.KindBlob:
		return cmpBytes(a.Text, b.Text, stand)
	}
	return cmp.Compare(a.Int, b.Int) // NULLs too: 0 in both
}

// cmpBytes goes byte by byte; a beginning of another one stands ahead of it.
func cmpBytes(a, b string, stand func(x, y byte) int) int {
	for i := range min(len(a), len(b)) {
		if n := stand(a[i], b[i]); n != 0 {
			return n
		}
	}
	return cmp.Compare(len(a), len(b))
}

// counted is that part of a text that counts under a collation.
func counted(s string, c api.Coll) string {
	if c == api.CollRTrim {
		return strings.TrimRight(s, blank)
	}
	return s
}

// byColl chooses how two bytes of texts stand under a collation; one that is none counts as CollBinary.
func byColl(c api.Coll) func(x, y byte) int {
	switch c {
	case api.CollNoCase:
		return func(x, y byte) int { return asBytes(lower(x), lower(y)) }
	default:
		return asBytes
	}
}

// asBytes is how two bytes stand as numbers.
func asBytes(x, y byte) int {
	return cmp.Compare(x, y)
}

// lower takes A to Z as a to z, and no other letters, whatever they mean in a wider alphabet.
func lower(b byte) byte {
	if 'A' <= b && b <= 'Z' {
		b += 'a' - 'A'
	}
	return b
}
