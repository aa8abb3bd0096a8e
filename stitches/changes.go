package stitches

import (
	"slices"
	"strings"

	"torchon/api"
)

// What becomes of each of the letters, in their order, if it is undone, worked on the other side, or seen in a mirror.
const (
	undone   = "clrtPCLRT"
	flipped  = "CRLTPcrlt"
	mirrored = "crltPCRLT"
)

// Inverse returns the word that undoes a word.
func Inverse(word string) (string, api.Errno) {
	if e := Check(word); e != api.OK {
		return "", e
	}
	back := exchanged(word, undone)
	slices.Reverse(back)
	return string(back), api.OK
}

// Flip returns the word as it is worked on the other side.
func Flip(word string) (string, api.Errno) {
	if e := Check(word); e != api.OK {
		return "", e
	}
	return string(exchanged(word, flipped)), api.OK
}

// Mirror returns the word as it looks in a mirror.
func Mirror(word string) (string, api.Errno) {
	if e := Check(word); e != api.OK {
		return "", e
	}
	return string(exchanged(word, mirrored)), api.OK
}

// exchanged returns the word with each letter exchanged with the one that has its index among the others.
func exchanged(word, others string) []byte {
	l := make([]byte, 0, len(word))
	for i := range len(word) {
		l = append(l, others[strings.IndexByte(letters, word[i])])
	}
	return l
}
