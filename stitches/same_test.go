package stitches_test

import (
	"math/rand"
	"strings"
	"sync"
	"testing"

	"torchon/api"
	"torchon/stitches"
)

// same calls Same of two words, in both orders.
func same(t *testing.T, a, b string) bool {
	t.Helper()
	is, e := stitches.Same(a, b)
	if e != api.OK {
		t.Fatalf("Same(%s, %s): error %d", a, b, e)
	}
	if back, e := stitches.Same(b, a); back != is || e != api.OK {
		t.Fatalf("Same(%s, %s): %v; the other way round: %v, %d", a, b, is, back, e)
	}
	return is
}

// P3.4 and the chapter's examples: Same.
func TestSame(t *testing.T) {
	for _, c := range []struct {
		a, b string
		want bool
	}{
		{"", "", true},
		{"", "Cc", true},
		{"", "Tt", true},
		{"", "C", false},
		{"", "P", false},
		{"CLRC", "CTC", true},
		{"CRLC", "CTC", true},
		{"CTC", "CTCT", false},
		{"CT", "TC", false},
		{"T", "t", false},
		{"CC", "", false},
		{"TT", "", false},
		{"L", "R", false},
		{"lCl", "ClC", true},
		{"rCr", "CrC", true},
		{"LcL", "cLc", true},
		{"RcR", "cRc", true},
		{"LCL", "CLC", false},
		{"RCR", "CRC", false},
		{"LCl", "clC", false},
		{"LClL", "LC", true},
		{"cLC", "lcL", true},
		{"cLC", "Lcl", false},
		{"clC", "lCL", true},
		{"P", "P", true},
		{"PP", "P", false},
		{"CPC", "CC", false},
		{"CPC", "CPC", true},
		{"CPcC", "CP", true},
		{"CPc", "P", false},
		{"CP", "PC", false},
		{"LPR", "TP", false},
		{"LPR", "RPL", false},
		{"PCPlClP", "PCPClCP", true},
		{"PCPlClP", "PClCPCP", false},
		{strings.Repeat("T", 16), strings.Repeat("LR", 8), false},
		{strings.Repeat("T", 8), strings.Repeat("LR", 8), true},
		{strings.Repeat("T", 16), strings.Repeat("T", 16), true},
		{strings.Repeat("P", 16), strings.Repeat("P", 16), true},
		{strings.Repeat("P", 16), strings.Repeat("P", 15), false},
	} {
		if is := same(t, c.a, c.b); is != c.want {
			t.Errorf("Same(%s, %s): %v", c.a, c.b, is)
		}
	}
}

// inverseOf returns the inverse of a word of a free group, whose letters have their capitals as inverses.
func inverseOf(word string) string {
	back := ""
	for i := range len(word) {
		back = string(word[i]^32) + back
	}
	return back
}

// free takes neighbours that are inverse to each other out.
func free(word string) string {
	var l []byte
	for i := range len(word) {
		if last := len(l) - 1; last >= 0 && l[last] == word[i]^32 {
			l = l[:last]
		} else {
			l = append(l, word[i])
		}
	}
	return string(l)
}

// actions returns what each part makes of the letters a to d of a free group, as P2.8 describes it. Two words are the same exactly if this is.
func actions(word string) string {
	all := ""
	for _, part := range strings.Split(word, "P") {
		g := [5]string{"", "a", "b", "c", "d"}
		for _, i := range crossingsOf(part) {
			if i > 0 {
				g[i], g[i+1] = free(g[i]+g[i+1]+inverseOf(g[i])), g[i]
			} else {
				g[-i], g[-i+1] = g[-i+1], free(inverseOf(g[-i+1])+g[-i]+g[-i+1])
			}
		}
		all += strings.Join(g[1:], ",") + "/"
	}
	return all
}

// P3.4: Same of any two short words, against the independent proof of layer 2.
func TestSameByAction(t *testing.T) {
	var list []string
	everyWord(allLetters, 2, func(word string) { list = append(list, word) })
	for _, a := range list {
		for _, b := range list {
			if is, want := same(t, a, b), actions(a) == actions(b); is != want {
				t.Fatalf("Same(%s, %s): %v", a, b, is)
			}
		}
	}
}

// rules returns stretches that are the same, in pairs.
func rules() [][2]string {
	return [][2]string{
		{"", "Cc"}, {"", "cC"}, {"", "Ll"}, {"", "lL"}, {"", "Rr"}, {"", "rR"}, {"", "Tt"}, {"", "tT"},
		{"LR", "RL"}, {"LR", "T"}, {"lr", "rl"}, {"lr", "t"}, {"Lr", "rL"}, {"lR", "Rl"},
		{"lCl", "ClC"}, {"rCr", "CrC"}, {"LcL", "cLc"}, {"RcR", "cRc"}, {"lCL", "clC"}, {"rCR", "crC"},
	}
}

// changed puts equal stretches in each other's place, so often, where r says. The word gets no more than so many letters.
func changed(r *rand.Rand, word string, times, most int) string {
	for range times {
		rule := rules()[r.Intn(len(rules()))]
		if r.Intn(2) == 0 {
			rule[0], rule[1] = rule[1], rule[0]
		}
		at := r.Intn(len(word) + 1)
		rest, found := strings.CutPrefix(word[at:], rule[0])
		if found && len(word)-len(rule[0])+len(rule[1]) <= most {
			word = word[:at] + rule[1] + rest
		}
	}
	return word
}

// P3.4: words that are changed by the rules stay the same.
func TestSameByRules(t *testing.T) {
	r := rand.New(rand.NewSource(3))
	for range 2000 {
		a := someWord(r, allLetters, r.Intn(17))
		b := changed(r, a, 100, 16)
		if !same(t, a, b) {
			t.Fatalf("Same(%s, %s): false", a, b)
		}
		began, _ := stitches.Places(a)
		if places, _ := stitches.Places(b); len(places) != 4 || [4]int(places) != [4]int(began) {
			t.Fatalf("%s and %s are the same, but their Places are %v and %v", a, b, began, places)
		}
	}
}

// P3.4, P3.7, P3.8: words that are nearly the same: Same against the independent proof, and whether it stays so if both are flipped, mirrored, or undone.
func TestSameOfNearlySame(t *testing.T) {
	r := rand.New(rand.NewSource(4))
	alike, unlike := 0, 0
	for range 3000 {
		a := someWord(r, allLetters, r.Intn(9))
		b := changed(r, a, 50, 9)
		if r.Intn(2) == 0 {
			at := r.Intn(len(b) + 1)
			b = b[:at] + someWord(r, allLetters, 1) + b[at:]
			b = changed(r, b, 50, 10)
		}
		if r.Intn(4) == 0 && b != "" {
			at := r.Intn(len(b))
			b = b[:at] + b[at+1:]
		}
		is := same(t, a, b)
		if want := actions(a) == actions(b); is != want {
			t.Fatalf("Same(%s, %s): %v", a, b, is)
		}
		for name, call := range map[string]func(string) (string, api.Errno){"Flip": stitches.Flip, "Mirror": stitches.Mirror, "Inverse": stitches.Inverse} {
			if same(t, change(t, call, a), change(t, call, b)) != is {
				t.Fatalf("Same(%s, %s): %v; after %s it is not", a, b, is, name)
			}
		}
		if is {
			alike++
		} else {
			unlike++
		}
	}
	if alike < 500 || unlike < 500 {
		t.Errorf("%d words alike, %d unlike", alike, unlike)
	}
}

// P1 (R6): results depend on the arguments alone, also when many calls run at the same time.
func TestCallsAreIndependent(t *testing.T) {
	answers := func() string {
		text := ""
		everyWord(allLetters, 2, func(word string) {
			s, _ := stitches.Reduce(word)
			name, _ := stitches.Name(word)
			inverse, _ := stitches.Inverse(word)
			is, _ := stitches.Same(word, "LR")
			text += s + name + inverse
			if is {
				text += "!"
			}
		})
		return text
	}
	want := answers()
	var group sync.WaitGroup
	for range 8 {
		group.Go(func() {
			if got := answers(); got != want {
				t.Errorf("%s, then %s", want, got)
			}
		})
	}
	group.Wait()
}
