package stitches_test

import (
	"math/rand"
	"slices"
	"strings"
	"testing"

	"torchon/api"
	"torchon/stitches"
)

const (
	allLetters = "CLRTPclrt"
	noPin      = "CLRTclrt"
)

// moves are the crossings of each letter, as the chapter lists them.
func moves() map[byte][]int {
	return map[byte][]int{'C': {2}, 'L': {-1}, 'R': {-3}, 'T': {-1, -3}, 'P': nil, 'c': {-2}, 'l': {1}, 'r': {3}, 't': {1, 3}}
}

// everyWord calls with all words of at most so many of the letters.
func everyWord(letters string, most int, call func(word string)) {
	level := []string{""}
	for range most + 1 {
		var next []string
		for _, word := range level {
			call(word)
			for i := range len(letters) {
				next = append(next, word+letters[i:i+1])
			}
		}
		level = next
	}
}

// someWord returns a word of so many of the letters, which depends on r alone.
func someWord(r *rand.Rand, letters string, long int) string {
	word := make([]byte, long)
	for i := range word {
		word[i] = letters[r.Intn(len(letters))]
	}
	return string(word)
}

// manyWords calls with all short words and with some of up to 16 letters.
func manyWords(call func(word string)) {
	everyWord(allLetters, 4, call)
	r := rand.New(rand.NewSource(1))
	for range 3000 {
		call(someWord(r, allLetters, r.Intn(17)))
		call(someWord(r, noPin, 16))
	}
}

func TestEveryWordIsComplete(t *testing.T) {
	seen := map[string]bool{}
	everyWord(allLetters, 3, func(word string) { seen[word] = true })
	if len(seen) != 1+9+81+729 {
		t.Fatalf("%d words", len(seen))
	}
}

// broken are strings that are no words, with the error of Check.
func broken() map[string]api.Errno {
	return map[string]api.Errno{
		"p":                              api.ErrForm,
		"CTX":                            api.ErrForm,
		"xCT":                            api.ErrForm,
		"C T":                            api.ErrForm,
		"CT ":                            api.ErrForm,
		"CTC\n":                          api.ErrForm,
		"\x00":                           api.ErrForm,
		"\xff":                           api.ErrForm,
		"é":                              api.ErrForm,
		"С":                              api.ErrForm, // a Cyrillic letter that looks like C
		"cloth":                          api.ErrForm,
		strings.Repeat("C", 15) + "x":    api.ErrForm,
		"x" + strings.Repeat("C", 15):    api.ErrForm,
		strings.Repeat("é", 8):           api.ErrForm, // 16 bytes
		strings.Repeat("é", 9):           api.ErrLong, // 18 bytes
		strings.Repeat("C", 17):          api.ErrLong,
		strings.Repeat("T", 17):          api.ErrLong,
		strings.Repeat("P", 17):          api.ErrLong,
		strings.Repeat("x", 17):          api.ErrLong,
		"x" + strings.Repeat("C", 16):    api.ErrLong,
		strings.Repeat("C", 16) + "x":    api.ErrLong,
		strings.Repeat("Cc", 9):          api.ErrLong, // short when it is reduced
		strings.Repeat("CLRTPclrt", 999): api.ErrLong,
	}
}

// P3.1: Check.
func TestCheck(t *testing.T) {
	for word, want := range broken() {
		if e := stitches.Check(word); e != want {
			t.Errorf("Check(%.30q): %d, want %d", word, e, want)
		}
	}
	for _, word := range []string{"", "C", "CTC", "CTCTPCTCT", allLetters, strings.Repeat("T", 16), strings.Repeat("P", 16), strings.Repeat("Lr", 8)} {
		if e := stitches.Check(word); e != api.OK {
			t.Errorf("Check(%q): %d", word, e)
		}
	}
}

// P3.1: which bytes are letters.
func TestLetters(t *testing.T) {
	for b := range 256 {
		word := string([]byte{byte(b)})
		want := api.ErrForm
		if strings.Contains(allLetters, word) {
			want = api.OK
		}
		if e := stitches.Check(word); e != want {
			t.Errorf("Check(%q): %d", word, e)
		}
		if e := stitches.Check("CT" + word + "PC"); e != want {
			t.Errorf("Check with %q inside: %d", word, e)
		}
	}
}

// calls are all functions with words but Check; each returns whether there is a result beside the error.
func calls() map[string]func(word string) (bool, api.Errno) {
	list := func(call func(string) ([]int, api.Errno)) func(string) (bool, api.Errno) {
		return func(word string) (bool, api.Errno) {
			l, e := call(word)
			return len(l) > 0, e
		}
	}
	text := func(call func(string) (string, api.Errno)) func(string) (bool, api.Errno) {
		return func(word string) (bool, api.Errno) {
			s, e := call(word)
			return s != "", e
		}
	}
	return map[string]func(word string) (bool, api.Errno){
		"Crossings": list(stitches.Crossings),
		"Places":    list(stitches.Places),
		"Inverse":   text(stitches.Inverse),
		"Flip":      text(stitches.Flip),
		"Mirror":    text(stitches.Mirror),
		"Reduce":    text(stitches.Reduce),
		"Name":      text(stitches.Name),
		"Moves": func(word string) (bool, api.Errno) {
			n, e := stitches.Moves(word)
			return n != api.StCount{}, e
		},
		"Same 1":    func(word string) (bool, api.Errno) { return stitches.Same(word, "") },
		"Same 2":    func(word string) (bool, api.Errno) { return stitches.Same("", word) },
		"Same both": func(word string) (bool, api.Errno) { return stitches.Same(word, word) },
	}
}

// P3.1: all other functions return the error of Check first, and nothing else.
func TestErrorsOfWords(t *testing.T) {
	for name, call := range calls() {
		for word, want := range broken() {
			if some, e := call(word); some || e != want {
				t.Errorf("%s of %.30q: error %d, want %d alone", name, word, e, want)
			}
		}
	}
}

// P3.1: if both words have an error, that of the first one counts.
func TestErrorsOfBothWords(t *testing.T) {
	long := strings.Repeat("C", 17)
	for _, c := range []struct {
		a, b string
		want api.Errno
	}{{long, "x", api.ErrLong}, {"x", long, api.ErrForm}, {"PP", "x", api.ErrForm}, {"x", "PP", api.ErrForm}, {"PP", long, api.ErrLong}, {long, "PP", api.ErrLong}} {
		if is, e := stitches.Same(c.a, c.b); is || e != c.want {
			t.Errorf("Same(%s, %s): %v, %d, want %d", c.a, c.b, is, e, c.want)
		}
	}
}

// P3.2 and the chapter's examples: Crossings, Places, Moves.
func TestCrossings(t *testing.T) {
	for _, c := range []struct {
		word              string
		crossings, places []int
		count             api.StCount
	}{
		{"", nil, []int{1, 2, 3, 4}, api.StCount{}},
		{"C", []int{2}, []int{1, 3, 2, 4}, api.StCount{Crosses: 1}},
		{"c", []int{-2}, []int{1, 3, 2, 4}, api.StCount{Crosses: 1}},
		{"L", []int{-1}, []int{2, 1, 3, 4}, api.StCount{Twists: 1}},
		{"l", []int{1}, []int{2, 1, 3, 4}, api.StCount{Twists: 1}},
		{"R", []int{-3}, []int{1, 2, 4, 3}, api.StCount{Twists: 1}},
		{"r", []int{3}, []int{1, 2, 4, 3}, api.StCount{Twists: 1}},
		{"T", []int{-1, -3}, []int{2, 1, 4, 3}, api.StCount{Twists: 2}},
		{"t", []int{1, 3}, []int{2, 1, 4, 3}, api.StCount{Twists: 2}},
		{"P", nil, []int{1, 2, 3, 4}, api.StCount{Pins: 1}},
		{"PP", nil, []int{1, 2, 3, 4}, api.StCount{Pins: 2}},
		{"CT", []int{2, -1, -3}, []int{3, 1, 4, 2}, api.StCount{Crosses: 1, Twists: 2}},
		{"TC", []int{-1, -3, 2}, []int{2, 4, 1, 3}, api.StCount{Crosses: 1, Twists: 2}},
		{"CTC", []int{2, -1, -3, 2}, []int{3, 4, 1, 2}, api.StCount{Crosses: 2, Twists: 2}},
		{"CTCT", []int{2, -1, -3, 2, -1, -3}, []int{4, 3, 2, 1}, api.StCount{Crosses: 2, Twists: 4}},
		{"LC", []int{-1, 2}, []int{2, 3, 1, 4}, api.StCount{Crosses: 1, Twists: 1}},
		{"CTPlcr", []int{2, -1, -3, 1, -2, 3}, []int{1, 4, 2, 3}, api.StCount{Crosses: 2, Twists: 4, Pins: 1}},
		{"CcTt", []int{2, -2, -1, -3, 1, 3}, []int{1, 2, 3, 4}, api.StCount{Crosses: 2, Twists: 4}},
		{strings.Repeat("T", 16), slices.Repeat([]int{-1, -3}, 16), []int{1, 2, 3, 4}, api.StCount{Twists: 32}},
		{strings.Repeat("P", 16), nil, []int{1, 2, 3, 4}, api.StCount{Pins: 16}},
	} {
		if l, e := stitches.Crossings(c.word); !slices.Equal(l, c.crossings) || e != api.OK {
			t.Errorf("Crossings(%q): %v, %d", c.word, l, e)
		}
		if l, e := stitches.Places(c.word); !slices.Equal(l, c.places) || e != api.OK {
			t.Errorf("Places(%q): %v, %d", c.word, l, e)
		}
		if n, e := stitches.Moves(c.word); n != c.count || e != api.OK {
			t.Errorf("Moves(%q): %v, %d", c.word, n, e)
		}
	}
}

// crossingsOf returns the crossings of a word, letter by letter.
func crossingsOf(word string) []int {
	table := moves()
	var l []int
	for i := range len(word) {
		l = append(l, table[word[i]]...)
	}
	return l
}

// placesOf follows the threads, which exchange their places with each crossing.
func placesOf(word string) []int {
	line := []int{1, 2, 3, 4}
	for _, i := range crossingsOf(word) {
		i = max(i, -i)
		line[i-1], line[i] = line[i], line[i-1]
	}
	return line
}

// P3.2: Crossings, Places and Moves of many words, against the table of moves.
func TestCrossingsOfWords(t *testing.T) {
	manyWords(func(word string) {
		if l, e := stitches.Crossings(word); !slices.Equal(l, crossingsOf(word)) || e != api.OK {
			t.Fatalf("Crossings(%s): %v, %d", word, l, e)
		}
		if l, e := stitches.Places(word); !slices.Equal(l, placesOf(word)) || e != api.OK {
			t.Fatalf("Places(%s): %v, %d", word, l, e)
		}
		many := func(letters string) int {
			return len(word) - len(strings.Map(func(r rune) rune {
				if strings.ContainsRune(letters, r) {
					return -1
				}
				return r
			}, word))
		}
		want := api.StCount{Crosses: many("Cc"), Twists: many("LRlr") + 2*many("Tt"), Pins: many("P")}
		if n, e := stitches.Moves(word); n != want || e != api.OK {
			t.Fatalf("Moves(%s): %v, %d, want %v", word, n, e, want)
		}
	})
}
