package stitches

import "torchon/api"

type stitch struct{ name, word string }

var usual = [8]stitch{
	{"half", "CT"},
	{"cloth", "CTC"},
	{"whole", "CTCT"},
	{"halfpin", "CTPCT"},
	{"clothpin", "CTCPCTC"},
	{"wholepin", "CTCTPCTCT"},
	{"twist", "T"},
	{"none", ""},
}

// Standard returns the word of a usual stitch.
func Standard(name string) (string, api.Errno) {
	for _, s := range usual {
		if s.name == name {
			return s.word, api.OK
		}
	}
	return "", api.ErrNone
}

// Name returns the name of the usual stitch with just this word.
func Name(word string) (string, api.Errno) {
	if e := Check(word); e != api.OK {
		return "", e
	}
	for _, s := range usual {
		if s.word == word {
			return s.name, api.OK
		}
	}
	return "", api.ErrNone
}
