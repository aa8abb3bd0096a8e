package words_test

import (
	"math"
	"math/big"
	"strings"
	"testing"

	"torchon/api"
	"torchon/words"
)

// edgeNumbers are numbers where something could go wrong: about 0, the powers of 10, and the ends of int64.
func edgeNumbers() []int64 {
	l := []int64{math.MinInt64, math.MinInt64 + 1, math.MaxInt64 - 1, math.MaxInt64, 1234567890, -9876543210}
	for n := int64(1); ; n *= 10 {
		l = append(l, n-1, n, n+1, 1-n, -n, -n-1)
		if n > math.MaxInt64/10 {
			return l
		}
	}
}

// P1.2: Digits.
func TestDigits(t *testing.T) {
	for n, want := range map[int64]string{0: "0", 7: "7", 10: "10", -1: "-1", -10: "-10", 9999: "9999", 1234567890: "1234567890", math.MaxInt64: "9223372036854775807", math.MinInt64: "-9223372036854775808"} {
		if got := words.Digits(n); got != want {
			t.Errorf("Digits(%d): %q", n, got)
		}
	}
	for _, n := range edgeNumbers() {
		if got := words.Digits(n); got != big.NewInt(n).String() {
			t.Errorf("Digits(%d): %q", n, got)
		}
	}
}

// P1.2: Int, with the order of its errors.
func TestInt(t *testing.T) {
	for _, x := range []struct {
		s           string
		least, most int64
		n           int64
		e           api.Errno
	}{
		{"0", 0, 0, 0, api.OK},
		{"9", 0, 9, 9, api.OK},
		{"10", 0, 9, 0, api.ErrRange},
		{"-9", -9, 0, -9, api.OK},
		{"-10", -9, 0, 0, api.ErrRange},
		{"5", 5, 5, 5, api.OK},
		{"4", 5, 5, 0, api.ErrRange},
		{"6", 5, 5, 0, api.ErrRange},
		{"07", 0, 9, 0, api.ErrForm},
		{"00", 0, 9, 0, api.ErrForm},
		{"-0", -9, 9, 0, api.ErrForm},
		{"-07", -9, 9, 0, api.ErrForm},
		{"--7", -9, 9, 0, api.ErrForm},
		{"-", -9, 9, 0, api.ErrForm},
		{"", 0, 9, 0, api.ErrForm},
		{"+1", 0, 9, 0, api.ErrForm},
		{" 1", 0, 9, 0, api.ErrForm},
		{"1 ", 0, 9, 0, api.ErrForm},
		{"1_0", 0, 99, 0, api.ErrForm},
		{"0x1", 0, 9, 0, api.ErrForm},
		{"1e3", 0, 9999, 0, api.ErrForm},
		{"1.0", 0, 9, 0, api.ErrForm},
		{"12", 0, 9, 0, api.ErrRange},
		{"5", 9, 0, 0, api.ErrArg},
		{"no number", 9, 8, 0, api.ErrArg},
		{"9223372036854775807", math.MinInt64, math.MaxInt64, math.MaxInt64, api.OK},
		{"9223372036854775808", math.MinInt64, math.MaxInt64, 0, api.ErrRange},
		{"-9223372036854775808", math.MinInt64, math.MaxInt64, math.MinInt64, api.OK},
		{"-9223372036854775809", math.MinInt64, math.MaxInt64, 0, api.ErrRange},
		{"18446744073709551621", 0, 9, 0, api.ErrRange}, // 2^64 + 5
		{strings.Repeat("9", 5000), math.MinInt64, math.MaxInt64, 0, api.ErrRange},
		{"-" + strings.Repeat("9", 5000), math.MinInt64, math.MaxInt64, 0, api.ErrRange},
		{"0" + strings.Repeat("9", 5000), math.MinInt64, math.MaxInt64, 0, api.ErrForm},
		{strings.Repeat("9", 5000) + "a", math.MinInt64, math.MaxInt64, 0, api.ErrForm},
	} {
		if n, e := words.Int(x.s, x.least, x.most); n != x.n || e != x.e {
			t.Errorf("Int(%.30q, %d, %d): %d, %d, want %d, %d", x.s, x.least, x.most, n, e, x.n, x.e)
		}
	}
}

// wantInt is what Int must return, by numbers of any size.
func wantInt(s string, least, most int64) (int64, api.Errno) {
	n, ok := new(big.Int).SetString(s, 10)
	switch {
	case least > most:
		return 0, api.ErrArg
	case !ok || n.String() != s:
		return 0, api.ErrForm
	case n.Cmp(big.NewInt(least)) < 0 || n.Cmp(big.NewInt(most)) > 0:
		return 0, api.ErrRange
	}
	return n.Int64(), api.OK
}

// P1.2: Int of all short strings, and of all bytes beside a digit.
func TestIntOfAllStrings(t *testing.T) {
	check := func(s string) {
		for _, ends := range [][2]int64{{0, 9}, {-11, 10}, {-99999, 99999}, {1, 0}} {
			n, e := words.Int(s, ends[0], ends[1])
			if wn, we := wantInt(s, ends[0], ends[1]); n != wn || e != we {
				t.Errorf("Int(%q, %d, %d): %d, %d, want %d, %d", s, ends[0], ends[1], n, e, wn, we)
			}
		}
	}
	everyString("-+0195a", 5, check)
	for _, s := range everyByte() {
		check(s)
		check("1" + s)
		check(s + "1")
	}
}

// P1.7: Int of Digits is the number.
func TestIntOfDigits(t *testing.T) {
	for _, n := range edgeNumbers() {
		if got, e := words.Int(words.Digits(n), math.MinInt64, math.MaxInt64); got != n || e != api.OK {
			t.Errorf("Int of Digits(%d): %d, %d", n, got, e)
		}
		if got, e := words.Int(words.Digits(n), n, n); got != n || e != api.OK {
			t.Errorf("Int of Digits(%d) from %d on: %d, %d", n, n, got, e)
		}
	}
}
