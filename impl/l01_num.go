package impl

import "strings"

const MaxVar = 562949953421311

// maxWidth keeps every Fixed within an int.
const maxWidth = 7

// maxVarBytes is how many bytes the Var of MaxVar has.
const maxVarBytes = 7

// maxIntDigits is how many digits the least int has, and maxReadDigits how many ReadDec takes.
const maxIntDigits = 19
const maxReadDigits = 9

const hexDigits = "0123456789abcdef"

func widthOk(width int) bool {
	return width >= 1 && width <= maxWidth
}

// Fixed tells n in width bytes, the highest first.
func Fixed(n int, width int) string {
	if !widthOk(width) || n < 0 || n>>(8*width) != 0 {
		return ""
	}
	out := make([]byte, width)
	for i := range width {
		out[width-1-i] = byte(n >> (8 * i))
	}
	return string(out)
}

// ReadFixed reads the first width bytes of s; what stands behind them is not looked at.
func ReadFixed(s string, width int) (int, bool) {
	if !widthOk(width) || len(s) < width {
		return 0, false
	}
	n := 0
	for i := range width {
		n = n<<8 | int(s[i])
	}
	return n, true
}

// Var tells n by seven bits a byte, the lowest first.
func Var(n int) string {
	if n < 0 || n > MaxVar {
		return ""
	}
	out := make([]byte, 0, maxVarBytes)
	for n >= 128 {
		out = append(out, byte(n%128+128))
		n /= 128
	}
	return string(append(out, byte(n)))
}

// ReadVar reads the Var with which s begins, and tells how many bytes it has.
func ReadVar(s string) (int, int) {
	n := 0
scan:
	for i := range min(len(s), maxVarBytes) {
		b := int(s[i])
		n |= (b % 128) << (7 * i)
		if b >= 128 {
			continue
		}
		if b == 0 && i > 0 {
			// Var would have ended one byte earlier, so this is the Var of no number.
			break scan
		}
		return n, i + 1
	}
	return 0, 0
}

// Hex tells each byte by two signs, the higher one first.
func Hex(s string) string {
	out := make([]byte, 0, 2*len(s))
	for i := range len(s) {
		out = append(out, hexDigits[s[i]>>4], hexDigits[s[i]&15])
	}
	return string(out)
}

// Unhex reads what Hex makes, and nothing else.
func Unhex(s string) (string, bool) {
	out := make([]byte, 0, len(s)/2)
scan:
	for i := range len(s) / 2 {
		b := 0
		for j := range 2 {
			d := strings.IndexByte(hexDigits, s[2*i+j])
			if d < 0 {
				break scan
			}
			b = 16*b + d
		}
		out = append(out, byte(b))
	}
	// Less bytes than that: the scan was left, or one sign is over.
	if 2*len(out) != len(s) {
		return "", false
	}
	return string(out), true
}

// Dec tells n in decimal digits.
func Dec(n int) string {
	// Below 0 the digits are taken from an unsigned number: the least int has no opposite.
	left := uint64(n)
	if n < 0 {
		left = -left
	}
	var out [maxIntDigits + 1]byte
	at := len(out)
	for range maxIntDigits {
		at--
		out[at] = byte('0' + left%10)
		left /= 10
		if left == 0 {
			break
		}
	}
	if n < 0 {
		at--
		out[at] = '-'
	}
	return string(out[at:])
}

// ReadDec reads what Dec makes of a number of at most maxReadDigits digits, and nothing else.
func ReadDec(s string) (int, bool) {
	digits, below := strings.CutPrefix(s, "-")
	if len(digits) > maxReadDigits {
		return 0, false
	}
	n := 0
scan:
	for i := range len(digits) {
		switch d := digits[i]; {
		case d >= '0' && d <= '9':
			n = 10*n + int(d-'0')
		default:
			break scan
		}
	}
	if below {
		n = -n
	}
	// Only a text that Dec makes is taken: this bars needless noughts, no digits at all, and a scan that was left.
	if Dec(n) != s {
		return 0, false
	}
	return n, true
}
