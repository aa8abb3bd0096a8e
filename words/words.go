// Package words is layer 1: see shared/doc/01-words.md.
package words

import "torchon/api"

// Field is a field of a line.
type Field struct {
	Quoted bool
	S      string
}

// Name reports whether s is a name: a letter, then letters, digits and underscores.
func Name(s string) bool {
	if s == "" || len(s) > api.MaxName || !isLetter(s[0]) {
		return false
	}
	for i := range len(s) {
		if !isLetter(s[i]) && !isDigit(s[i]) && s[i] != '_' {
			return false
		}
	}
	return true
}

// Text reports whether s is a string that a field may hold.
func Text(s string) bool {
	return len(s) <= api.MaxText && within(s, ' ', '~')
}

func isLetter(b byte) bool {
	return 'a' <= b && b <= 'z' || 'A' <= b && b <= 'Z'
}

func isDigit(b byte) bool {
	return '0' <= b && b <= '9'
}

// within reports whether all bytes of s are from least to most.
func within(s string, least, most byte) bool {
	for i := range len(s) {
		if s[i] < least || s[i] > most {
			return false
		}
	}
	return true
}
