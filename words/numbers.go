package words

import (
	"strconv"
	"strings"

	"torchon/api"
)

var digits = [10]byte{'0', '1', '2', '3', '4', '5', '6', '7', '8', '9'}

// maxDigits is how many bytes the digits of an int64 may have, with a sign.
const maxDigits = 20

// Digits returns the decimal digits of n.
func Digits(n int64) string {
	size := uint64(n)
	if n < 0 {
		size = -size // the least int64 has no opposite of its own type
	}
	var written [maxDigits]byte
	at := maxDigits - 1
	written[at] = digits[size%10]
	for size /= 10; size > 0; size /= 10 {
		at--
		written[at] = digits[size%10]
	}
	if n < 0 {
		at--
		written[at] = '-'
	}
	return string(written[at:])
}

// Int returns the number whose digits s is, if it is from least to most.
func Int(s string, least, most int64) (int64, api.Errno) {
	if least > most {
		return 0, api.ErrArg
	}
	if !isNumeral(strings.TrimPrefix(s, "-")) || s == "-0" {
		return 0, api.ErrForm
	}
	n, err := strconv.ParseInt(s, 10, 64)
	// The form is right, so an error says that the number is beyond every int64.
	if err != nil || n < least || n > most {
		return 0, api.ErrRange
	}
	return n, api.OK
}

// isNumeral reports whether s is the digits of a number from 0 on, of any size.
func isNumeral(s string) bool {
	return s != "" && within(s, '0', '9') && (s[0] != '0' || s == "0")
}
