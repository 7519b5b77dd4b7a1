package impl

import (
	"strconv"
	"strings"
)

const MaxVar = 562949953421311

const maxFixedWidth = 7

// MaxVar fills seven bytes of seven bits, so no Var has more.
const maxVarBytes = 7

const maxDecDigits = 9

const hexDigits = "0123456789abcdef"

func Fixed(n int, width int) string {
	if width < 1 || width > maxFixedWidth || n < 0 || n>>(8*width) != 0 {
		return ""
	}
	out := make([]byte, width)
	for i := range width {
		out[width-1-i] = byte(n >> (8 * i))
	}
	return string(out)
}

func ReadFixed(s string, width int) (int, bool) {
	if width < 1 || width > maxFixedWidth || len(s) < width {
		return 0, false
	}
	n := 0
	for i := range width {
		n = n<<8 | int(s[i])
	}
	return n, true
}

func Var(n int) string {
	if n < 0 || n > MaxVar {
		return ""
	}
	var out []byte
	for n >= 128 {
		out = append(out, byte(n&127|128))
		n >>= 7
	}
	return string(append(out, byte(n)))
}

func ReadVar(s string) (int, int) {
	n := 0
	for i := range min(len(s), maxVarBytes) {
		digit := int(s[i])
		if digit >= 128 {
			n |= (digit - 128) << (7 * i)
			continue
		}
		// A last byte 0 behind others adds nothing: Var never makes it.
		if digit == 0 && i > 0 {
			return 0, 0
		}
		return n | digit<<(7*i), i + 1
	}
	return 0, 0
}

func Hex(s string) string {
	out := make([]byte, 0, 2*len(s))
	for i := range len(s) {
		out = append(out, hexDigits[s[i]>>4], hexDigits[s[i]&15])
	}
	return string(out)
}

func Unhex(s string) (string, bool) {
	if len(s)%2 != 0 {
		return "", false
	}
	out := make([]byte, len(s)/2)
	for i := range len(out) {
		high := strings.IndexByte(hexDigits, s[2*i])
		low := strings.IndexByte(hexDigits, s[2*i+1])
		if high < 0 || low < 0 {
			return "", false
		}
		out[i] = byte(high<<4 | low)
	}
	return string(out), true
}

func Dec(n int) string { return strconv.Itoa(n) }

func ReadDec(s string) (int, bool) {
	digits, below := strings.CutPrefix(s, "-")
	if len(digits) < 1 || len(digits) > maxDecDigits {
		return 0, false
	}
	// Dec puts a nought first in the one text "0" alone, never behind a -.
	if digits[0] == '0' && s != "0" {
		return 0, false
	}
	n, ok := readDigits(digits)
	if below {
		n = -n
	}
	return n, ok
}

func readDigits(s string) (int, bool) {
	n, ok := 0, true
digits:
	for i := range len(s) {
		switch c := s[i]; {
		case '0' <= c && c <= '9':
			n = 10*n + int(c-'0')
		default:
			n, ok = 0, false
			break digits
		}
	}
	return n, ok
}
