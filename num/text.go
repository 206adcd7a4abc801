package num

import (
	"math"

	"outrider/api"
)

// mostDigits is how many digits a number has at most; so many fit into 64 bits without a sign, whatever they are.
const mostDigits = 19

// Text: a number in decimal digits, - ahead below 0, no noughts ahead.
func Text(n int64) string {
	var digits [mostDigits + 1]byte
	at := len(digits)
	for left := size(n); left > 0 || at == len(digits); left /= 10 {
		at--
		digits[at] = byte('0' + left%10)
	}
	if n < 0 {
		at--
		digits[at] = '-'
	}
	return string(digits[at:])
}

// Parse: the number whose Text s is.
func Parse(s string) (int64, api.Errno) {
	below := s != "" && s[0] == '-'
	digits := s
	if below {
		digits = s[1:]
	}
	if !areDigits(digits) || digits[0] == '0' && s != "0" {
		return 0, api.ErrDigits
	}
	if len(digits) > mostDigits {
		return 0, api.ErrRange
	}
	return withSign(below, value(digits))
}

func areDigits(s string) bool {
	for i := range len(s) {
		if s[i] < '0' || s[i] > '9' {
			return false
		}
	}
	return s != ""
}

func value(digits string) uint64 {
	n := uint64(0)
	for i := range len(digits) {
		n = n*10 + uint64(digits[i]-'0')
	}
	return n
}

func withSign(below bool, n uint64) (int64, api.Errno) {
	if below && n <= 1<<63 {
		return int64(-n), api.OK
	}
	if !below && n <= math.MaxInt64 {
		return int64(n), api.OK
	}
	return 0, api.ErrRange
}
