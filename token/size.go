package token

import (
	"strings"

	"bureau/api"
)

// sizeOf tells how a kind's tokens are measured: how many bytes the one has that stands at a text's beginning; 0, if none does. Params, texts and blobs are looked at from behind the bytes that begin them.
func sizeOf(kind api.TokKind) func(s string) int {
	switch kind {
	case api.TokWord:
		return wordSize
	case api.TokInt:
		return digitsSize
	case api.TokText:
		return textSize
	case api.TokBlob:
		return blobSize
	case api.TokParam:
		return func(s string) int { return 1 + digitsSize(s[1:]) }
	}
	return signSize
}

// run is how many bytes at a text's beginning belong there.
func run(s string, belongs func(b byte) bool) int {
	for i := range len(s) {
		if !belongs(s[i]) {
			return i
		}
	}
	return len(s)
}

func wordSize(s string) int {
	if s == "" || !isLetter(s[0]) {
		return 0
	}
	return run(s, isOfWord)
}

func digitsSize(s string) int { return run(s, isDigit) }

// textSize goes on to a quote that does not stand twice.
func textSize(s string) int {
	end := 1
inner:
	for ; end < len(s); end++ {
		switch {
		case strings.HasPrefix(s[end:], twoQuotes):
			end++
		case s[end] == quote:
			break inner
		}
	}
	if end >= len(s) {
		return 0
	}
	return end + 1
}

// blobSize goes on to the next quote, ahead of which there may be digits alone, two for each byte.
func blobSize(s string) int {
	digits := run(s[len(blobBegin):], isHex)
	end := len(blobBegin) + digits
	if digits%2 == 1 || !strings.HasPrefix(s[end:], oneQuote) {
		return 0
	}
	return end + 1
}

// signSize takes a pair wherever there is one.
func signSize(s string) int {
	switch {
	case len(s) > 1 && isPair(s[:2]):
		return 2
	case s != "" && isSign(s[0]):
		return 1
	}
	return 0
}
