package stitches_test

import (
	"strings"
	"testing"

	"torchon/api"
	"torchon/stitches"
)

func usual() map[string]string {
	return map[string]string{
		"half": "CT", "cloth": "CTC", "whole": "CTCT", "halfpin": "CTPCT", "clothpin": "CTCPCTC", "wholepin": "CTCTPCTCT", "twist": "T", "none": "",
	}
}

// P3.5: the usual stitches, by their names and by their words.
func TestUsual(t *testing.T) {
	for name, word := range usual() {
		if s, e := stitches.Standard(name); s != word || e != api.OK {
			t.Errorf("Standard(%s): %q, %d, want %q", name, s, e, word)
		}
		if s, e := stitches.Name(word); s != name || e != api.OK {
			t.Errorf("Name(%q): %s, %d, want %s", word, s, e, name)
		}
	}
}

// P3.5: there are no other names.
func TestStandardErrors(t *testing.T) {
	for _, name := range []string{"", "Cloth", "CLOTH", "cloth ", " cloth", "clot", "cloths", "CTC", "T", "pin", "nothing", "half\x00", "é", strings.Repeat("cloth", 1000)} {
		if s, e := stitches.Standard(name); s != "" || e != api.ErrNone {
			t.Errorf("Standard(%.20q): %q, %d", name, s, e)
		}
	}
}

// P3.5: words that are only the same as that of a usual stitch have no name, nor has any other word.
func TestNameErrors(t *testing.T) {
	for _, word := range []string{"CLRC", "LR", "Cc", "CTCcC", "t", "ctc", "P", "CTP", "CCTC", "CTCC"} {
		if s, e := stitches.Name(word); s != "" || e != api.ErrNone {
			t.Errorf("Name(%s): %q, %d", word, s, e)
		}
	}
	named := 0
	everyWord(allLetters, 5, func(word string) {
		s, e := stitches.Name(word)
		if e == api.OK {
			named++
		}
		if usual()[s] != word && e == api.OK || e != api.OK && (s != "" || e != api.ErrNone) {
			t.Fatalf("Name(%s): %q, %d", word, s, e)
		}
	})
	if named != 6 {
		t.Errorf("%d words of up to 5 letters have a name", named)
	}
}
