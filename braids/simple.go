package braids

import "torchon/api"

// A simple is a simple braid: for each strand the place where it ends. Places that are not used keep their own numbers, so that simple braids of the same number of strands are the same if they are equal as arrays.
type simple [api.MaxStrands]int

// flat returns the simple braid without crossings.
func flat() simple {
	var s simple
	for strand := range s {
		s[strand] = strand
	}
	return s
}

// delta returns the simple braid in which all n strands are reversed.
func delta(n int) simple {
	s := flat()
	for strand := range n {
		s[strand] = n - 1 - strand
	}
	return s
}

// simpleOf returns the simple braid of a permutation, and whether the list is one of n numbers.
func simpleOf(n int, list []int) (simple, bool) {
	if len(list) != n {
		return simple{}, false
	}
	s := flat()
	var taken [api.MaxStrands]bool
	for strand, place := range list {
		if place < 0 || place >= n || taken[place] {
			return simple{}, false
		}
		taken[place] = true
		s[strand] = place
	}
	return s, true
}

// swapped returns s with the numbers of the strands in the places i - 1 and i exchanged: the letter i is put before s, or taken from its beginning.
func (s simple) swapped(i int) simple {
	s[i-1], s[i] = s[i], s[i-1]
	return s
}

// begins returns whether s begins with the letter i.
func (s simple) begins(i int) bool {
	return s[i-1] > s[i]
}

// backwards returns s read backwards: it begins with the letters with which s ends.
func (s simple) backwards() simple {
	var back simple
	for strand, place := range s {
		back[place] = strand
	}
	return back
}

// turned returns s seen from below: each letter i becomes n - i.
func (s simple) turned(n int) simple {
	t := s
	for strand := range n {
		t[strand] = n - 1 - s[n-1-strand]
	}
	return t
}

// least returns the least of the shortest words of s. Any letter with which s begins is the first one of such a word.
func (s simple) least(n int) []int {
	var word []int
	for s != flat() {
		first := 1
		for !s.begins(first) {
			first++
		}
		word = append(word, first)
		s = s.swapped(first)
	}
	return word
}
