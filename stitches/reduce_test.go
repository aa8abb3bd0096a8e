package stitches_test

import (
	"math/rand"
	"slices"
	"strings"
	"testing"

	"torchon/api"
	"torchon/stitches"
)

// P3.4 and the chapter's example: Reduce.
func TestReduce(t *testing.T) {
	for word, want := range map[string]string{
		"":                        "",
		"C":                       "C",
		"T":                       "T",
		"P":                       "P",
		"CTlrtcC":                 "Ct",
		"CLRC":                    "CTC",
		"RL":                      "T",
		"rl":                      "t",
		"LRLR":                    "TT",
		"LTr":                     "LL",
		"TlT":                     "RT",
		"TLT":                     "LTT",
		"trt":                     "rtt",
		"tl":                      "lt",
		"TL":                      "LT",
		"Lr":                      "Lr",
		"rL":                      "Lr",
		"lR":                      "Rl",
		"LlRr":                    "",
		"LRlr":                    "",
		"LRl":                     "R",
		"lRL":                     "R",
		"Tll":                     "Rl",
		"Cc":                      "",
		"cC":                      "",
		"CcCc":                    "",
		"CCcc":                    "",
		"LCcl":                    "",
		"LCcL":                    "LL",
		"RCcL":                    "T",
		"CLlc":                    "",
		"CTtc":                    "",
		"CTCctc":                  "",
		"CLcClC":                  "CC",
		"LClRcCrL":                "LC",
		"CLc":                     "CLc",
		"CRc":                     "CRc",
		"LCl":                     "LCl",
		"lCl":                     "lCl", // the same as ClC, but not reduced to it
		"ClC":                     "ClC",
		"CPc":                     "CPc",
		"LPl":                     "LPl",
		"LPR":                     "LPR",
		"PP":                      "PP",
		"CcPLl":                   "P",
		"PCcP":                    "PP",
		"CPcC":                    "CP",
		"RLPrl":                   "TPt",
		"CTCPCTC":                 "CTCPCTC",
		strings.Repeat("T", 16):   strings.Repeat("T", 16),
		strings.Repeat("LR", 8):   strings.Repeat("T", 8),
		strings.Repeat("Lr", 8):   strings.Repeat("L", 8) + strings.Repeat("r", 8),
		strings.Repeat("Tt", 8):   "",
		"TTTTTTTTllllllll":        strings.Repeat("R", 8),
		strings.Repeat("P", 16):   strings.Repeat("P", 16),
		"CLRcTrlCLRcTrlCc":        "CTTc", // CLRc becomes CTc, Trl is taken out, and then cC
		strings.Repeat("CTPc", 4): "CTPTPTPTPc",
	} {
		if s := change(t, stitches.Reduce, word); s != want {
			t.Errorf("Reduce(%q): %q, want %q", word, s, want)
		}
	}
}

// undoes returns whether a small letter stands with its capital.
func undoes(a, b byte) bool { return a != b && a|32 == b|32 && a != 'P' }

// mayBeExchanged returns whether a letter may stand between two of a pair that undo each other.
func mayBeExchanged(pair, between byte) bool {
	return pair|32 == 'l' && between|32 == 'r' || pair|32 == 'r' && between|32 == 'l'
}

// takenOut takes pairs out, whichever r says, as long as there is one.
func takenOut(r *rand.Rand, word string) string {
	for {
		var pairs [][2]int
		for i := range len(word) {
			for j := i + 1; j < len(word); j++ {
				if undoes(word[i], word[j]) {
					pairs = append(pairs, [2]int{i, j})
				}
				if !mayBeExchanged(word[i], word[j]) {
					break
				}
			}
		}
		if len(pairs) == 0 {
			return word
		}
		p := pairs[r.Intn(len(pairs))]
		word = word[:p[0]] + word[p[0]+1:p[1]] + word[p[1]+1:]
	}
}

// together makes one letter of two as often as possible.
func together(stretch, one, two, both string) string {
	for strings.Contains(stretch, one) && strings.Contains(stretch, two) {
		stretch = strings.Replace(strings.Replace(stretch, one, "", 1), two, both, 1)
	}
	return stretch
}

// reducedAnyhow reduces a word by both steps of the definition.
func reducedAnyhow(r *rand.Rand, word string) string {
	word = strings.NewReplacer("T", "LR", "t", "lr").Replace(word)
	word = takenOut(r, word) + "P"
	text, stretch := "", ""
	for i := range len(word) {
		if !strings.ContainsRune("CcP", rune(word[i])) {
			stretch += word[i : i+1]
			continue
		}
		l := []byte(together(together(stretch, "L", "R", "T"), "l", "r", "t"))
		slices.Sort(l)
		text += string(l) + word[i:i+1]
		stretch = ""
	}
	return strings.TrimSuffix(text, "P")
}

// P3.4: whatever is taken out first, the word that Reduce returns is left.
func TestReduceInAnyOrder(t *testing.T) {
	r := rand.New(rand.NewSource(2))
	check := func(word string) {
		if s, want := change(t, stitches.Reduce, word), reducedAnyhow(r, word); s != want {
			t.Fatalf("Reduce(%s): %s, want %s", word, s, want)
		}
	}
	everyWord(allLetters, 5, check)
	everyWord("CLRclr", 6, check)
	shorter := 0
	for range 5000 {
		check(someWord(r, allLetters, r.Intn(17)))
		check(someWord(r, noPin, 16))
		word := someWord(r, noPin, 7)
		word += someWord(r, allLetters, r.Intn(3)) + change(t, stitches.Inverse, word)
		check(word)
		if len(change(t, stitches.Reduce, word)) < len(word)/2 {
			shorter++
		}
	}
	if shorter < 1000 {
		t.Errorf("only %d words became much shorter", shorter)
	}
}

// P3.6: Reduce of a word is the same as the word, has no more letters, and is reduced.
func TestReduced(t *testing.T) {
	manyWords(func(word string) {
		s := change(t, stitches.Reduce, word)
		if !same(t, word, s) {
			t.Fatalf("Reduce(%s): %s, which is not the same", word, s)
		}
		if len(s) > len(word) {
			t.Fatalf("Reduce(%s): %s, which has more letters", word, s)
		}
		if again := change(t, stitches.Reduce, s); again != s {
			t.Fatalf("Reduce(%s): %s, and of that: %s", word, s, again)
		}
	})
}

// P3.8: a word that is flipped is reduced to the same word as its reduced word, flipped.
func TestReduceOfFlip(t *testing.T) {
	manyWords(func(word string) {
		a := change(t, stitches.Reduce, change(t, stitches.Flip, word))
		b := change(t, stitches.Flip, change(t, stitches.Reduce, word))
		if a != b || change(t, stitches.Reduce, b) != b {
			t.Fatalf("%s: flipped and reduced: %s; reduced and flipped: %s", word, a, b)
		}
	})
}

// P1 (R3): results are new memory: what is written into one changes no later result.
func TestMemory(t *testing.T) {
	for name, call := range map[string]func(string) ([]int, api.Errno){"Crossings": stitches.Crossings, "Places": stitches.Places} {
		for _, word := range []string{"", "P", "CTC", "CTCTPCTCT"} {
			l, _ := call(word)
			want := slices.Clone(l)
			l = l[:cap(l)]
			for i := range l {
				l[i] = -99
			}
			if again, e := call(word); !slices.Equal(again, want) || e != api.OK {
				t.Errorf("%s of %s: %v and then %v, %d", name, word, want, again, e)
			}
		}
	}
}
