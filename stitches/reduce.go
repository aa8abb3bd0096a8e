package stitches

import (
	"slices"
	"strings"

	"torchon/api"
	"torchon/braids"
)

const pin = "P"

// Reduce returns the word, reduced.
func Reduce(word string) (string, api.Errno) {
	if e := Check(word); e != api.OK {
		return "", e
	}
	parts := strings.Split(word, pin)
	for i, part := range parts {
		parts[i] = reduced(part)
	}
	return strings.Join(parts, pin), api.OK
}

// reduced returns a part, reduced.
func reduced(part string) string {
	var l []syllable
	for i := range len(part) {
		l = withLetter(l, part[i])
	}
	var text strings.Builder
	for _, s := range l {
		text.Write(s.word())
	}
	return text.String()
}

// A syllable is only crosses, or only twists of both pairs; numbers are negative if they undo moves. All letters of a syllable may be exchanged with each other, and none of its letters with one of the next syllable. So a pair of letters can be taken out exactly if both come to stand in one syllable, and only how many there are matters.
type syllable struct{ crosses, left, right int }

func syllableOf(letter byte) syllable {
	left, right := twists(letter)
	return syllable{crosses(letter), left, right}
}

func (s syllable) isCross() bool {
	return s.crosses != 0
}

func (s syllable) plus(t syllable) syllable {
	return syllable{s.crosses + t.crosses, s.left + t.left, s.right + t.right}
}

// withLetter puts a letter behind syllables none of which is empty, and no two neighbours of which are of one kind; so it is again afterwards.
func withLetter(l []syllable, letter byte) []syllable {
	next := syllableOf(letter)
	if last := len(l) - 1; last >= 0 && l[last].isCross() == next.isCross() {
		// The room behind the others is taken off as well, so that what is put there later is not written over the syllable.
		l, next = l[:last:last], l[last].plus(next)
	}
	if next == (syllable{}) {
		return l
	}
	return append(l, next)
}

// word returns the fewest letters of a syllable, in the order of their bytes.
func (s syllable) word() []byte {
	// Twists of both pairs in one direction are a letter together.
	both := max(0, min(s.left, s.right)) + min(0, max(s.left, s.right))
	text := times("C", "c", s.crosses) + times("L", "l", s.left-both) + times("R", "r", s.right-both) + times("T", "t", both)
	l := []byte(text)
	slices.Sort(l)
	return l
}

// times returns a letter n times, or the one that undoes it -n times.
func times(letter, undoing string, n int) string {
	if n < 0 {
		return strings.Repeat(undoing, -n)
	}
	return strings.Repeat(letter, n)
}

// Same returns whether two words are the same: as many pins, and between them the same braids.
func Same(a, b string) (bool, api.Errno) {
	if e := Check(a); e != api.OK {
		return false, e
	}
	if e := Check(b); e != api.OK {
		return false, e
	}
	return slices.EqualFunc(strings.Split(a, pin), strings.Split(b, pin), samePart), api.OK
}

// samePart returns whether two parts are the same braid.
func samePart(a, b string) bool {
	same, _ := braids.Same(threads, crossings(a), crossings(b))
	return same
}
