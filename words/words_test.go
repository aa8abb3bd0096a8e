package words_test

import (
	"strings"
	"testing"

	"torchon/words"
)

// everyByte are the strings of one byte.
func everyByte() []string {
	var l []string
	for b := range 256 {
		l = append(l, string([]byte{byte(b)}))
	}
	return l
}

// everyString yields all strings of at most so many of the letters, the empty one first.
func everyString(letters string, most int, yield func(string)) {
	yield("")
	if most == 0 {
		return
	}
	for i := range len(letters) {
		everyString(letters, most-1, func(rest string) { yield(letters[i:i+1] + rest) })
	}
}

// P1.1: Name.
func TestName(t *testing.T) {
	for _, s := range []string{"a", "z", "A", "Z", "a0", "a9", "a_", "Z_9", "aA", "n_1_2", "abcdefghijklmnop", "A123456789_12345"} {
		if !words.Name(s) {
			t.Errorf("Name(%q): want true", s)
		}
	}
	for _, s := range []string{"", "_a", "1a", "0", "_", "a-b", "a b", " a", "a ", "a\n", "a.b", "é", "aé", "a\x00", "abcdefghijklmnopq", strings.Repeat("a", 300)} {
		if words.Name(s) {
			t.Errorf("Name(%q): want false", s)
		}
	}
}

// P1.1: which bytes may begin a name, and which ones may follow.
func TestNameBytes(t *testing.T) {
	letters := "abcdefghijklmnopqrstuvwxyzABCDEFGHIJKLMNOPQRSTUVWXYZ"
	for _, s := range everyByte() {
		if want := strings.Contains(letters, s); words.Name(s) != want {
			t.Errorf("Name(%q): want %v", s, want)
		}
		if want := strings.Contains(letters+"0123456789_", s); words.Name("q"+s) != want || words.Name("q"+s+"q") != want {
			t.Errorf("Name with %q behind a letter: want %v", s, want)
		}
	}
}

// P1.1: Text.
func TestText(t *testing.T) {
	for _, s := range []string{"", " ", "~", "say \"a\"", strings.Repeat("x", 200), strings.Repeat("\"", 200)} {
		if !words.Text(s) {
			t.Errorf("Text(%q): want true", s)
		}
	}
	for _, s := range []string{"\x1f", "\x7f", "a\n", "\ta", "é", "\xff", strings.Repeat("x", 201)} {
		if words.Text(s) {
			t.Errorf("Text(%q): want false", s)
		}
	}
	for b, s := range everyByte() {
		if want := 32 <= b && b <= 126; words.Text(s) != want || words.Text("a"+s+"b") != want {
			t.Errorf("Text with the byte %d: want %v", b, want)
		}
	}
}
