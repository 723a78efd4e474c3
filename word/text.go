package word

import (
	"strings"

	"cairn/api"
)

const (
	hexMark    = "0x"
	hexDigits  = "0123456789abcdef"
	mostHex    = 64 // digits to the base 16
	mostDec    = 78 // decimal digits
	mostParsed = 80 // bytes of a text
)

// Hex answers the digits of x to the base 16, behind 0x: P2.9
func Hex(x api.Word) string { return hexMark + digits(x, 16) }

// Dec answers the decimal digits of x: P2.9
func Dec(x api.Word) string { return digits(x, 10) }

// Parse answers the number that Hex or Dec would tell so: P2.9
func Parse(s string) (api.Word, api.Errno) {
	if len(s) > mostParsed {
		return api.Word{}, api.ErrLong
	}
	if hex, ok := strings.CutPrefix(s, hexMark); ok {
		return parseHex(hex)
	}
	return parseDec(s)
}

// digits answers the digits of x to a base that is 10 or 16, without leading noughts.
func digits(x api.Word, base uint64) string {
	var text [mostDec]byte
	first := mostDec
	for i := range mostDec {
		quotient, rest := divide(x, Of(base))
		first = mostDec - 1 - i
		text[first] = hexDigits[rest[0]]
		x = quotient
		if x == (api.Word{}) {
			break
		}
	}
	return string(text[first:])
}

func parseHex(s string) (api.Word, api.Errno) {
	if len(s) > mostHex {
		return api.Word{}, api.ErrWord
	}
	return parseDigits(s, 16)
}

func parseDec(s string) (api.Word, api.Errno) {
	if len(s) > 1 && s[0] == '0' {
		return api.Word{}, api.ErrWord
	}
	return parseDigits(s, 10)
}

// parseDigits reads digits to a base that is 10 or 16: at least one, of a number that is a word.
func parseDigits(s string, base uint64) (api.Word, api.Errno) {
	var x api.Word
	var over uint64
	for i := range len(s) {
		d := digit(s[i])
		if d >= base {
			return api.Word{}, api.ErrWord
		}
		x, over = multiplyLimb(x, base, d)
		if over != 0 {
			return api.Word{}, api.ErrWord
		}
	}
	if s == "" {
		return api.Word{}, api.ErrWord
	}
	return x, api.OK
}

// digit is what a digit stands for; 16, which is above all digits, if c is none.
func digit(c byte) uint64 {
	switch {
	case '0' <= c && c <= '9':
		return uint64(c - '0')
	case 'a' <= c && c <= 'f':
		return uint64(c-'a') + 10
	case 'A' <= c && c <= 'F':
		return uint64(c-'A') + 10
	default:
		return 16
	}
}
