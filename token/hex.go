package token

const (
	hexDigits = "0123456789abcdef"
	digitTen  = 10 // what the digit a stands for
)

// hex writes each byte as two digits.
func hex(s string) string {
	digits := make([]byte, 0, 2*len(s))
	for i := range len(s) {
		digits = append(digits, hexDigits[s[i]>>4], hexDigits[s[i]&15])
	}
	return string(digits)
}

// unhex reads digits of either case, two for each byte.
func unhex(digits string) string {
	s := make([]byte, len(digits)/2)
	for i := range s {
		s[i] = hexValue(digits[2*i])<<4 | hexValue(digits[2*i+1])
	}
	return string(s)
}

// hexValue is what a digit stands for.
func hexValue(b byte) byte {
	if isDigit(b) {
		return b - '0'
	}
	return small(b) - 'a' + digitTen
}
