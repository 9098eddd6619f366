package impl

import (
	"strconv"
	"strings"
)

const MaxVar = 562949953421311

// Seven bytes keep every Fixed well inside an int.
const maxWidth = 7

// The Var of MaxVar has this many bytes, so no Var has more.
const maxVarBytes = 7

const maxDecDigits = 9

const hexDigits = "0123456789abcdef"

func isWidth(width int) bool { return width >= 1 && width <= maxWidth }

func Fixed(n int, width int) string {
	// The width is asked first: a shift by less than nothing would panic.
	if !isWidth(width) || n < 0 || n>>(8*width) != 0 {
		return ""
	}
	out := make([]byte, width)
	for i := range width {
		out[width-1-i] = byte(n >> (8 * i))
	}
	return string(out)
}

func ReadFixed(s string, width int) (int, bool) {
	if !isWidth(width) || len(s) < width {
		return 0, false
	}
	n := 0
	for i := range width {
		n = n<<8 + int(s[i])
	}
	return n, true
}

func Var(n int) string {
	if n < 0 || n > MaxVar {
		return ""
	}
	out := make([]byte, 0, maxVarBytes)
	for n >= 128 {
		out = append(out, byte(128+n%128))
		n /= 128
	}
	return string(append(out, byte(n)))
}

func ReadVar(s string) (int, int) {
	n := 0
reading:
	for i := range min(len(s), maxVarBytes) {
		b := int(s[i])
		n += (b % 128) << (7 * i)
		switch {
		case b >= 128:
			continue
		case b == 0 && i > 0:
			// A last byte that adds nothing is not needed: Var never makes it.
			break reading
		default:
			return n, i + 1
		}
	}
	return 0, 0
}

func Hex(s string) string {
	out := make([]byte, 0, 2*len(s))
	for i := range len(s) {
		out = append(out, hexDigits[s[i]>>4], hexDigits[s[i]&15])
	}
	return string(out)
}

func Unhex(s string) (string, bool) {
	if len(s)%2 != 0 {
		return "", false
	}
	out := make([]byte, 0, len(s)/2)
	for i := range len(s) / 2 {
		high := strings.IndexByte(hexDigits, s[2*i])
		low := strings.IndexByte(hexDigits, s[2*i+1])
		if high < 0 || low < 0 {
			return "", false
		}
		out = append(out, byte(high<<4+low))
	}
	return string(out), true
}

func Dec(n int) string { return strconv.Itoa(n) }

func ReadDec(s string) (int, bool) {
	digits, below := strings.CutPrefix(s, "-")
	if len(digits) == 0 || len(digits) > maxDecDigits {
		return 0, false
	}
	n, read := 0, 0
reading:
	for i := range len(digits) {
		d := digits[i]
		switch {
		case d < '0' || d > '9':
			break reading
		case i == 0 && d == '0' && len(s) > 1:
			// A nought leads only where it is the whole text: neither 01 nor -0.
			break reading
		default:
			n = 10*n + int(d-'0')
			read++
		}
	}
	if read < len(digits) {
		return 0, false
	}
	if below {
		n = -n
	}
	return n, true
}
