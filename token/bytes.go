package token

const (
	quote   = '\''
	newLine = '\n'

	oneQuote    = "'"
	twoQuotes   = "''" // a quote within a text
	blobBegin   = "x'"
	param       = "?"
	remark      = "--"
	partsPieces = ";"
	between     = " "

	toSmall = 'a' - 'A' // how far small letters stand behind the capital ones
)

func isBlank(b byte) bool {
	switch b {
	case ' ', '\t', newLine, '\r':
		return true
	}
	return false
}

func isDigit(b byte) bool { return '0' <= b && b <= '9' }

// isLetter takes _ too, which stands wherever a letter may.
func isLetter(b byte) bool {
	b = small(b)
	return 'a' <= b && b <= 'z' || b == '_'
}

func isOfWord(b byte) bool { return isLetter(b) || isDigit(b) }

// isHex tells whether a byte is a digit to the base 16.
func isHex(b byte) bool {
	b = small(b)
	return isDigit(b) || 'a' <= b && b <= 'f'
}

// isSign tells whether a byte is a sign by itself.
func isSign(b byte) bool {
	switch b {
	case '(', ')', ',', ';', '.', '*', '+', '-', '/', '%', '=', '<', '>':
		return true
	}
	return false
}

// isPair tells whether two bytes are one sign.
func isPair(s string) bool {
	switch s {
	case "||", "==", "<>", "!=", "<=", ">=":
		return true
	}
	return false
}

// small takes A to Z as a to z, and no other letters, whatever they mean in a wider alphabet.
func small(b byte) byte {
	if 'A' <= b && b <= 'Z' {
		b += toSmall
	}
	return b
}

// capital is small the other way round.
func capital(b byte) byte {
	if 'a' <= b && b <= 'z' {
		b -= toSmall
	}
	return b
}
