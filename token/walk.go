package token

import (
	"iter"
	"strings"

	"bureau/api"
)

// wrong is the kind of a token that is none.
const wrong api.TokKind = 0

// walk goes over the tokens of a text, each with the place behind its last byte. Where one begins that is none, it tells one of the kind wrong, and ends.
func walk(sql string) iter.Seq2[api.Token, int] {
	return func(yield func(api.Token, int) bool) {
		for at := behindBlanks(sql, 0); at < len(sql); {
			t, size := first(sql[at:])
			t.At = at
			if !yield(t, at+size) || t.Kind == wrong {
				return
			}
			at = behindBlanks(sql, at+size)
		}
	}
}

// behindBlanks tells the first place from at on where neither a blank nor a remark stands.
func behindBlanks(sql string, at int) int {
	for at < len(sql) {
		switch {
		case isBlank(sql[at]):
			at++
		case strings.HasPrefix(sql[at:], remark):
			at += run(sql[at:], func(b byte) bool { return b != newLine })
		default:
			return at
		}
	}
	return at
}

// first tells the token that stands at a text's beginning, and how many bytes it has there; if none does, one of the kind wrong.
func first(s string) (api.Token, int) {
	kind := begun(s)
	size := sizeOf(kind)(s)
	if size == 0 {
		return api.Token{Kind: wrong}, 0
	}
	return api.Token{Kind: kind, Text: meant(kind, s[:size])}, size
}

// begun tells the one kind that a token with these first bytes can have; what no token begins with is left to the signs.
func begun(s string) api.TokKind {
	switch b := s[0]; {
	case b == quote:
		return api.TokText
	case b == param[0]:
		return api.TokParam
	case small(b) == 'x' && strings.HasPrefix(s[1:], oneQuote):
		return api.TokBlob
	case isLetter(b):
		return api.TokWord
	case isDigit(b):
		return api.TokInt
	}
	return api.TokSign
}

// meant is the Text of a token that stands there as s.
func meant(kind api.TokKind, s string) string {
	switch kind {
	case api.TokText:
		return strings.ReplaceAll(s[1:len(s)-1], twoQuotes, oneQuote)
	case api.TokBlob:
		return unhex(s[len(blobBegin) : len(s)-1])
	case api.TokParam:
		return s[1:]
	}
	return s
}
