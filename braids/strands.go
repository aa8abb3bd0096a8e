package braids

import "torchon/api"

// A line says which strand is in which place.
type line [api.MaxStrands]int

// newLine returns the line before the first letter, when each strand is where it begins.
func newLine() line {
	var l line
	for place := range l {
		l[place] = place
	}
	return l
}

// cross carries out a letter.
func (l *line) cross(letter int) {
	at := number(letter)
	l[at-1], l[at] = l[at], l[at-1]
}

// number returns a letter without its sign.
func number(letter int) int {
	return max(letter, -letter)
}

// sign returns 1 or -1.
func sign(letter int) int {
	if letter < 0 {
		return -1
	}
	return 1
}

// Perm returns for each strand the place where it ends.
func Perm(n int, w []int) ([]int, api.Errno) {
	if e := Check(n, w); e != api.OK {
		return nil, e
	}
	l := newLine()
	for _, letter := range w {
		l.cross(letter)
	}
	ends := make([]int, n)
	for place := range n {
		ends[l[place]] = place
	}
	return ends, api.OK
}

// Links returns for any two strands how many letters without a sign let them cross, less the number of those with a sign.
func Links(n int, w []int) ([][]int, api.Errno) {
	if e := Check(n, w); e != api.OK {
		return nil, e
	}
	links := make([][]int, n)
	for strand := range links {
		links[strand] = make([]int, n)
	}
	l := newLine()
	for _, letter := range w {
		at := number(letter)
		left, right := l[at-1], l[at]
		links[left][right] += sign(letter)
		links[right][left] += sign(letter)
		l.cross(letter)
	}
	return links, api.OK
}

// checkStrand returns the error of w, or else of a strand that is none of the n.
func checkStrand(n int, w []int, strand int) api.Errno {
	if e := Check(n, w); e != api.OK {
		return e
	}
	if strand < 0 || strand >= n {
		return api.ErrRange
	}
	return api.OK
}

// Drop returns the word of all other strands.
func Drop(n int, w []int, strand int) ([]int, api.Errno) {
	if e := checkStrand(n, w, strand); e != api.OK {
		return nil, e
	}
	if n == 1 {
		return nil, api.ErrArg
	}
	others, _ := without(w, strand)
	return others, api.OK
}

// without returns the word of the strands other than the one in this place, and the place where that one ends.
func without(w []int, place int) (others []int, end int) {
	others = make([]int, 0, len(w))
	for _, letter := range w {
		switch at := number(letter); {
		case place == at-1:
			place = at
		case place == at:
			place = at - 1
		case place < at:
			others = append(others, letter-sign(letter))
		default:
			others = append(others, letter)
		}
	}
	return others, place
}

// Lay returns w, in which a strand is laid above (or below) all others: it first goes to the last place, and at the end it comes back from there.
func Lay(n int, w []int, strand int, above bool) ([]int, api.Errno) {
	if e := checkStrand(n, w, strand); e != api.OK {
		return nil, e
	}
	others, end := without(w, strand)
	if n-1-strand+len(others)+n-1-end > api.MaxBraid {
		return nil, api.ErrLong
	}
	// On its way to the right the strand is the left one of both that cross, and on its way back the right one.
	over := 1
	if !above {
		over = -1
	}
	laid := make([]int, 0, api.MaxBraid)
	for at := strand + 1; at < n; at++ {
		laid = append(laid, over*at)
	}
	laid = append(laid, others...)
	for at := n - 1; at > end; at-- {
		laid = append(laid, -over*at)
	}
	return laid, api.OK
}
