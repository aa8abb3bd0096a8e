package words_test

import (
	"math/big"
	"math/rand/v2"
	"regexp"
	"slices"
	"strconv"
	"strings"
	"testing"

	"torchon/api"
	"torchon/words"
)

// P1.3 and the chapter's examples: texts of lists, which are read as the lists.
func TestListTexts(t *testing.T) {
	for want, l := range map[string][]int{
		"":            nil,
		"0":           {0},
		"9999":        {9999},
		"1-3,7":       {1, 2, 3, 7},
		"4x4":         {4, 4, 4, 4},
		"1,2":         {1, 2},
		"9,10":        {9, 10},
		"2x10":        {10, 10},
		"0,0":         {0, 0},
		"3x0":         {0, 0, 0},
		"2x5":         {5, 5},
		"1,1":         {1, 1},
		"2,2":         {2, 2},
		"1,2,3x3":     {1, 2, 3, 3, 3},
		"0-2,2":       {0, 1, 2, 2},
		"3,3-5":       {3, 3, 4, 5},
		"3,2,1":       {3, 2, 1},
		"7-10":        {7, 8, 9, 10},
		"98-101":      {98, 99, 100, 101},
		"9998,9999":   {9998, 9999},
		"1-3,5-7":     {1, 2, 3, 5, 6, 7},
		"10x1":        {1, 1, 1, 1, 1, 1, 1, 1, 1, 1},
		"3x5,3x6":     {5, 5, 5, 6, 6, 6},
		"2x10,2x11":   {10, 10, 11, 11},
		"10,10-12":    {10, 10, 11, 12},
		"10-12,12":    {10, 11, 12, 12},
		"1,0":         {1, 0},
		"0,9999,0":    {0, 9999, 0},
		"2x777,3x778": {777, 777, 778, 778, 778},
	} {
		if got, e := words.List(l); got != want || e != api.OK {
			t.Errorf("List(%v): %q, %d, want %q", l, got, e, want)
		}
		if got, e := words.ParseList(want); !slices.Equal(got, l) || e != api.OK {
			t.Errorf("ParseList(%q): %v, %d, want %v", want, got, e, l)
		}
	}
}

// P1.3: the errors of List, in their order, and what is just allowed.
func TestListErrors(t *testing.T) {
	long := make([]int, 501)
	wrong := slices.Clone(long)
	wrong[0], wrong[500] = -1, 10000
	for _, x := range []struct {
		l    []int
		want string
		e    api.Errno
	}{
		{long[:500], "500x0", api.OK},
		{long, "", api.ErrLong},
		{wrong, "", api.ErrLong},
		{wrong[:500], "", api.ErrRange},
		{wrong[1:], "", api.ErrRange},
		{[]int{-1}, "", api.ErrRange},
		{[]int{10000}, "", api.ErrRange},
		{[]int{1, 2, 10000, 3}, "", api.ErrRange},
		{[]int{1 << 62, -1 << 62}, "", api.ErrRange},
		{[]int{}, "", api.OK},
	} {
		if got, e := words.List(x.l); got != x.want || e != x.e {
			t.Errorf("List of %d numbers: %q, %d, want %q, %d", len(x.l), got, e, x.want, x.e)
		}
	}
}

// P1.3: texts that are no shortest ones are read all the same.
func TestParseListOfLongerTexts(t *testing.T) {
	for s, want := range map[string][]int{
		"5-7,2x9":     {5, 6, 7, 9, 9},
		"1-2":         {1, 2},
		"2x0":         {0, 0},
		"1,2,3":       {1, 2, 3},
		"1-2,3x3":     {1, 2, 3, 3, 3},
		"3x12":        {12, 12, 12},
		"2x9999":      {9999, 9999},
		"9997-9999":   {9997, 9998, 9999},
		"0-1,1-2,2x1": {0, 1, 1, 2, 1, 1},
	} {
		if got, e := words.ParseList(s); !slices.Equal(got, want) || e != api.OK {
			t.Errorf("ParseList(%q): %v, %d, want %v", s, got, e, want)
		}
	}
}

// P1.3: the errors of ParseList, in their order.
func TestParseListErrors(t *testing.T) {
	for want, texts := range map[api.Errno][]string{
		api.ErrForm: {
			",", "1,", ",1", "1,,2", "3-3", "4-3", "10-9", "1x4", "0x4", "01", "00", "2x01", "02x1", "1-02", "01-2", "-1", "1-", "-", "1--2", "1-2-3", "2x3x4", "2x1-3", "1-2x3",
			" 1", "1 ", "1, 2", "a", "x", "x1", "2x", "1x", "2X3", "+1", "1;2", "1\n", "10000,", "10000-10000", "501x0,1x1", "501x0,", "99999999999999999999-99999999999999999998", "99999999999999999999-99999999999999999999", "10000000000000000000-9999999999999999999",
		},
		api.ErrRange: {
			"10000", "10001-10002", "9998-10000", "0-10000", "2x10000", "99999999999999999999", "501x10000", "501x0,10000", "10000,501x0", "99999999999999999999x10000", "99999999999999999998-99999999999999999999", "9999999999999999999-10000000000000000000", strings.Repeat("1", 2500),
			"18446744073709551616", "2x18446744073709551617", "1-18446744073709551618",
		},
		api.ErrLong: {
			"501x0", "0-500", "9499-9999", "250x1,251x2", "99999999999999999999x1", "18446744073709551618x1", "0-9999", strings.Repeat("0-9999,", 300) + "1", strings.Repeat("1,", 500) + "1", strings.Repeat("1", 2501), strings.Repeat(",", 2501), strings.Repeat("1,", 1250) + "1",
		},
	} {
		for _, s := range texts {
			if l, e := words.ParseList(s); len(l) != 0 || e != want {
				t.Errorf("ParseList(%.40q): %v, %d, want %d", s, l, e, want)
			}
		}
	}
}

// P1.3: as many numbers, and as many bytes, as may be.
func TestParseListLimits(t *testing.T) {
	longest := strings.Repeat("9999,", 499) + "9-13" // 2499 bytes, but 504 numbers
	if l, e := words.ParseList(longest); len(l) != 0 || e != api.ErrLong {
		t.Errorf("ParseList of 504 numbers: %d, %d", len(l), e)
	}
	full := strings.Repeat("9998,", 498) + "9997-9999" // 2499 bytes
	if l, e := words.ParseList(full); len(l) != 0 || e != api.ErrLong {
		t.Errorf("ParseList of 501 numbers: %d, %d", len(l), e)
	}
	widest := strings.Repeat("9998,", 498) + "9996-9997" // 500 numbers
	for _, s := range []string{"500x7", "0-499", "9500-9999", "250x1,250x2", strings.Repeat("9998,", 499) + "9998", widest} {
		if l, e := words.ParseList(s); len(l) != 500 || e != api.OK {
			t.Errorf("ParseList(%.40q): %d numbers, %d", s, len(l), e)
		}
	}
	l, _ := words.ParseList(widest)
	if l[0] != 9998 || l[497] != 9998 || l[498] != 9996 || l[499] != 9997 {
		t.Errorf("ParseList of the widest text: %v", l)
	}
	// 500 numbers have at most 2499 bytes, so only numbers that are too great show where the limit of bytes lies.
	for n, want := range map[int]api.Errno{2500: api.ErrRange, 2501: api.ErrLong} {
		if _, e := words.ParseList(strings.Repeat("7", n)); e != want {
			t.Errorf("ParseList of %d digits: %d, want %d", n, e, want)
		}
	}
}

var itemForm = regexp.MustCompile(`^(?:(0|[1-9][0-9]*)(?:-(0|[1-9][0-9]*)|x(0|[1-9][0-9]*))?)$`)

// wantItem is the numbers of an item: how many, from which one to which one; nil if it is none.
func wantItem(text string) (times, first, last *big.Int) {
	m := itemForm.FindStringSubmatch(text)
	if m == nil {
		return nil, nil, nil
	}
	number := func(s string) *big.Int { n, _ := new(big.Int).SetString(s, 10); return n }
	one := big.NewInt(1)
	switch {
	case m[2] != "":
		if number(m[1]).Cmp(number(m[2])) >= 0 {
			return nil, nil, nil
		}
		return one, number(m[1]), number(m[2])
	case m[3] != "":
		if number(m[1]).Cmp(one) <= 0 {
			return nil, nil, nil
		}
		return number(m[1]), number(m[3]), number(m[3])
	}
	return one, number(m[1]), number(m[1])
}

// wantList is what ParseList must return for a string that is not too long.
func wantList(s string) ([]int, api.Errno) {
	var l []int
	e := api.OK
	if s == "" {
		return nil, e
	}
	for _, text := range strings.Split(s, ",") {
		times, first, last := wantItem(text)
		switch {
		case times == nil:
			return nil, api.ErrForm
		case last.Cmp(big.NewInt(9999)) > 0:
			e = api.ErrRange
		case e == api.OK && times.Cmp(big.NewInt(500)) > 0:
			e = api.ErrLong
		case e == api.OK:
			for n := first.Int64(); n <= last.Int64(); n++ {
				l = append(l, slices.Repeat([]int{int(n)}, int(times.Int64()))...)
			}
		}
	}
	if e == api.OK && len(l) > 500 {
		e = api.ErrLong
	}
	if e != api.OK {
		return nil, e
	}
	return l, e
}

// P1.3 and P1.7: ParseList of all short strings; and List of what is read is neither longer, nor as long and greater.
func TestParseListOfAllStrings(t *testing.T) {
	check := func(s string) {
		l, e := words.ParseList(s)
		if want, we := wantList(s); !slices.Equal(l, want) || e != we {
			t.Errorf("ParseList(%q): %v, %d, want %v, %d", s, l, e, want, we)
		}
		if e != api.OK {
			return
		}
		text, e := words.List(l)
		if e != api.OK || len(text) > len(s) || len(text) == len(s) && text > s {
			t.Errorf("List(%v): %q, %d, but %q is a text of it", l, text, e, s)
		}
		if back, e := words.ParseList(text); !slices.Equal(back, l) || e != api.OK {
			t.Errorf("ParseList of List(%v): %v, %d", l, back, e)
		}
	}
	everyString("0129x-,", 6, check)
	everyString("12x-,", 7, check)
	for _, s := range everyByte() {
		check(s)
		check("2" + s)
		check(s + "3")
		check("2" + s + "3")
	}
}

// allTexts are all texts of a list.
func allTexts(l []int) []string {
	if len(l) == 0 {
		return []string{""}
	}
	var texts []string
	for end := 1; end <= len(l); end++ {
		for _, item := range itemsOf(l[:end]) {
			for _, rest := range allTexts(l[end:]) {
				if end < len(l) {
					rest = "," + rest
				}
				texts = append(texts, item+rest)
			}
		}
	}
	return texts
}

// itemsOf are the items whose numbers are just these.
func itemsOf(l []int) []string {
	first := strconv.Itoa(l[0])
	if len(l) == 1 {
		return []string{first}
	}
	equal, ascending := true, true
	for i, n := range l {
		equal = equal && n == l[0]
		ascending = ascending && n == l[0]+i
	}
	if equal {
		return []string{strconv.Itoa(len(l)) + "x" + first}
	}
	if ascending {
		return []string{first + "-" + strconv.Itoa(l[len(l)-1])}
	}
	return nil
}

func bestOf(texts []string) string {
	return slices.MinFunc(texts, func(a, b string) int {
		if len(a) != len(b) {
			return len(a) - len(b)
		}
		return strings.Compare(a, b)
	})
}

// steadyList returns a list whose numbers often stay, or become 1 more.
func steadyList(r *rand.Rand, many int) []int {
	var l []int
	n := []int{0, 8, 97, 9990}[r.IntN(4)]
	for range many {
		l = append(l, n)
		switch r.IntN(7) {
		case 0:
			n = r.IntN(13)
		case 1, 2, 3:
			n = min(n+1, 9999)
		}
	}
	return l
}

// P1.3: List returns the shortest and least of all texts.
func TestListIsTheBestText(t *testing.T) {
	r := rand.New(rand.NewPCG(1, 2))
	for range 3000 {
		l := steadyList(r, r.IntN(11))
		if got, e := words.List(l); e != api.OK || got != bestOf(allTexts(l)) {
			t.Errorf("List(%v): %q, %d, want %q", l, got, e, bestOf(allTexts(l)))
		}
	}
}

// P1.7 and P1.9: long lists come back; and two strings with a comma between them are the one list and then the other one.
func TestListsOneAfterTheOther(t *testing.T) {
	r := rand.New(rand.NewPCG(3, 4))
	for range 300 {
		a, b := steadyList(r, 1+r.IntN(250)), steadyList(r, 1+r.IntN(250))
		s, e := words.List(a)
		u, f := words.List(b)
		if e != api.OK || f != api.OK {
			t.Fatalf("List(%v): %d; List(%v): %d", a, e, b, f)
		}
		both := slices.Concat(a, b)
		if l, e := words.ParseList(s + "," + u); !slices.Equal(l, both) || e != api.OK {
			t.Errorf("ParseList(%q): %d", s+","+u, e)
		}
		text, e := words.List(both)
		if e != api.OK || len(text) > len(s)+1+len(u) {
			t.Errorf("List of both: %d bytes, %d, but %q and %q", len(text), e, s, u)
		}
		if l, e := words.ParseList(text); !slices.Equal(l, both) || e != api.OK {
			t.Errorf("ParseList of List(%v): %v, %d", both, l, e)
		}
	}
}

// P1.9: both lists together may have 500 numbers, and not more.
func TestListsTogetherAtTheLimit(t *testing.T) {
	for _, s := range []string{"0-249,250x7", "499x3,8", "1,0-498"} {
		if l, e := words.ParseList(s); len(l) != 500 || e != api.OK {
			t.Errorf("ParseList(%q): %d numbers, %d", s, len(l), e)
		}
		if l, e := words.ParseList(s + ",1"); len(l) != 0 || e != api.ErrLong {
			t.Errorf("ParseList(%q): %d numbers, %d", s+",1", len(l), e)
		}
	}
}
