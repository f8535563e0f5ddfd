package token

import (
	"strings"

	"bureau/api"
)

// Print writes tokens as a text that has just these.
func Print(l ...api.Token) (string, api.Errno) {
	texts := make([]string, len(l))
	for i, t := range l {
		if !mayBe(t.Kind)(t.Text) {
			return "", api.ErrArg
		}
		texts[i] = written(t)
	}
	return strings.Join(texts, between), api.OK
}

// mayBe tells which texts the tokens of a kind may have.
func mayBe(kind api.TokKind) func(text string) bool {
	switch kind {
	case api.TokWord, api.TokInt, api.TokSign:
		size := sizeOf(kind)
		return func(text string) bool { return text != "" && size(text) == len(text) }
	case api.TokText, api.TokBlob:
		return func(string) bool { return true }
	case api.TokParam:
		return func(text string) bool { return digitsSize(text) == len(text) }
	}
	return func(string) bool { return false }
}

// written is a token as it stands in a text.
func written(t api.Token) string {
	switch t.Kind {
	case api.TokText:
		return oneQuote + strings.ReplaceAll(t.Text, oneQuote, twoQuotes) + oneQuote
	case api.TokBlob:
		return blobBegin + hex(t.Text) + oneQuote
	case api.TokParam:
		return param + t.Text
	}
	return t.Text
}
