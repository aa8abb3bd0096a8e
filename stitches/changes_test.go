package stitches_test

import (
	"strings"
	"testing"

	"torchon/api"
	"torchon/stitches"
)

// change calls one of the functions that make a word of a word.
func change(t *testing.T, call func(string) (string, api.Errno), word string) string {
	t.Helper()
	s, e := call(word)
	if e != api.OK {
		t.Fatalf("%q: error %d", word, e)
	}
	return s
}

// P3.3 and the chapter's examples: Inverse, Flip, Mirror.
func TestChanged(t *testing.T) {
	for _, c := range []struct{ word, inverse, flip, mirror string }{
		{"", "", "", ""},
		{"C", "c", "C", "c"},
		{"c", "C", "c", "C"},
		{"L", "l", "R", "r"},
		{"l", "L", "r", "R"},
		{"R", "r", "L", "l"},
		{"r", "R", "l", "L"},
		{"T", "t", "T", "t"},
		{"t", "T", "t", "T"},
		{"P", "P", "P", "P"},
		{"CTP", "Ptc", "CTP", "ctP"},
		{"CL", "lc", "CR", "cr"},
		{"Rt", "Tr", "Lt", "lT"},
		{"CTCPCTC", "ctcPctc", "CTCPCTC", "ctcPctc"},
		{"LRTC", "ctrl", "RLTC", "rltc"},
		{allLetters, "TRLCPtrlc", "CRLTPcrlt", "crltPCRLT"},
		{strings.Repeat("CL", 8), strings.Repeat("lc", 8), strings.Repeat("CR", 8), strings.Repeat("cr", 8)},
	} {
		if s := change(t, stitches.Inverse, c.word); s != c.inverse {
			t.Errorf("Inverse(%q): %q, want %q", c.word, s, c.inverse)
		}
		if s := change(t, stitches.Flip, c.word); s != c.flip {
			t.Errorf("Flip(%q): %q, want %q", c.word, s, c.flip)
		}
		if s := change(t, stitches.Mirror, c.word); s != c.mirror {
			t.Errorf("Mirror(%q): %q, want %q", c.word, s, c.mirror)
		}
	}
}

// P3.6: twice the same change is none.
func TestChangedTwice(t *testing.T) {
	for name, call := range map[string]func(string) (string, api.Errno){"Inverse": stitches.Inverse, "Flip": stitches.Flip, "Mirror": stitches.Mirror} {
		manyWords(func(word string) {
			if s := change(t, call, change(t, call, word)); s != word {
				t.Fatalf("%s, twice, of %s: %s", name, word, s)
			}
		})
	}
}

// P3.6: a word without pins and then its Inverse are the same as none, and so the other way round.
func TestInverseUndoes(t *testing.T) {
	check := func(word string) {
		if !same(t, word, "") {
			t.Fatalf("%s is not the same as none", word)
		}
	}
	manyWords(func(word string) {
		word = strings.ReplaceAll(word, "P", "")
		word = word[:min(len(word), 8)]
		check(word + change(t, stitches.Inverse, word))
		check(change(t, stitches.Inverse, word) + word)
	})
}

// P3.7: the places seen from the other side.
func TestPlacesOfChanged(t *testing.T) {
	for name, call := range map[string]func(string) (string, api.Errno){"Flip": stitches.Flip, "Mirror": stitches.Mirror} {
		manyWords(func(word string) {
			began, e := stitches.Places(word)
			seen, f := stitches.Places(change(t, call, word))
			if e != api.OK || f != api.OK || len(began) != 4 || len(seen) != 4 {
				t.Fatalf("Places of %s: %v, %d and %v, %d", word, began, e, seen, f)
			}
			for i := 1; i <= 4; i++ {
				if seen[5-i-1] != 5-began[i-1] {
					t.Fatalf("Places of %s: %v; after %s: %v", word, began, name, seen)
				}
			}
		})
	}
}

// P3.7: places of the Inverse: the threads go back.
func TestPlacesOfInverse(t *testing.T) {
	manyWords(func(word string) {
		began, _ := stitches.Places(word)
		back, _ := stitches.Places(change(t, stitches.Inverse, word))
		for i, j := range began {
			if back[j-1] != i+1 {
				t.Fatalf("Places of %s: %v; of its Inverse: %v", word, began, back)
			}
		}
	})
}
