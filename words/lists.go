package words

import (
	"iter"
	"strings"

	"torchon/api"
)

// List returns the text of a list: the shortest one, and of these the least one.
func List(l []int) (string, api.Errno) {
	if len(l) > api.MaxList {
		return "", api.ErrLong
	}
	for _, n := range l {
		if n < 0 || n > api.MaxListNumber {
			return "", api.ErrRange
		}
	}
	tails := make([]string, len(l)+1) // the texts from each index on, as they follow another item
	for i := len(l) - 1; i >= 0; i-- {
		tails[i] = "," + bestText(l, i, tails)
	}
	return strings.TrimPrefix(tails[0], ","), api.OK
}

// bestText returns the text of the list from the index i on, given what follows from the later indices on.
func bestText(l []int, i int, tails []string) string {
	best := ""
	for first, end := range itemsAt(l, i) {
		text := first + tails[end]
		if best == "" || comesFirst(text, best) {
			best = text
		}
	}
	return best
}

// comesFirst reports whether a is shorter than b, or as long and less. Numerals are in this order if their numbers are, however great they are.
func comesFirst(a, b string) bool {
	return len(a) < len(b) || len(a) == len(b) && a < b
}

// itemsAt yields the items that may begin at the index i, each with the index behind its numbers.
func itemsAt(l []int, i int) iter.Seq2[string, int] {
	return func(yield func(string, int) bool) {
		first := Digits(int64(l[i]))
		if !yield(first, i+1) {
			return
		}
		for j := i + 1; j < len(l) && l[j] == l[j-1]+1; j++ {
			if !yield(first+"-"+Digits(int64(l[j])), j+1) {
				return
			}
		}
		for j := i + 1; j < len(l) && l[j] == l[i]; j++ {
			if !yield(Digits(int64(j-i+1))+"x"+first, j+1) {
				return
			}
		}
	}
}

// item is the numbers from first to last, each one so many times.
type item struct{ times, first, last int }

// ParseList returns the list of a string of a list.
func ParseList(s string) ([]int, api.Errno) {
	if len(s) > api.MaxListText {
		return nil, api.ErrLong
	}
	items, ok := parseItems(s)
	if !ok {
		return nil, api.ErrForm
	}
	for _, x := range items {
		if x.last > api.MaxListNumber {
			return nil, api.ErrRange
		}
	}
	return expand(items)
}

func parseItems(s string) ([]item, bool) {
	if s == "" {
		return nil, true
	}
	var items []item
	for _, text := range strings.Split(s, ",") {
		x, ok := parseItem(text)
		if !ok {
			return nil, false
		}
		items = append(items, x)
	}
	return items, true
}

func parseItem(text string) (item, bool) {
	if first, last, found := strings.Cut(text, "-"); found {
		ok := isNumeral(first) && isNumeral(last) && comesFirst(first, last)
		return item{1, bounded(first), bounded(last)}, ok
	}
	if times, number, found := strings.Cut(text, "x"); found {
		ok := isNumeral(times) && isNumeral(number) && comesFirst("1", times)
		return item{bounded(times), bounded(number), bounded(number)}, ok
	}
	return item{1, bounded(text), bounded(text)}, isNumeral(text)
}

// bounded returns the number of a numeral; one above MaxListNumber becomes MaxListNumber + 1, which is too great everywhere in a list.
func bounded(numeral string) int {
	n, e := Int(numeral, 0, api.MaxListNumber)
	if e != api.OK {
		return api.MaxListNumber + 1
	}
	return int(n)
}

func expand(items []item) ([]int, api.Errno) {
	many := 0
	for _, x := range items {
		many += x.times * (x.last - x.first + 1)
	}
	if many > api.MaxList {
		return nil, api.ErrLong
	}
	l := make([]int, 0, many)
	for _, x := range items {
		for n := x.first; n <= x.last; n++ {
			for range x.times {
				l = append(l, n)
			}
		}
	}
	return l, api.OK
}
