package sheet

import "torchon/api"

const bits = 64

// A set is a set of works, with a bit for each of them.
type set [(api.MaxWorks + bits - 1) / bits]uint64

func (s *set) add(work int) {
	s[work/bits] |= 1 << (work % bits)
}

func (s *set) has(work int) bool {
	return s[work/bits]>>(work%bits)&1 == 1
}

// meets returns whether a work is in both sets.
func (s *set) meets(t set) bool {
	for i, word := range s {
		if word&t[i] != 0 {
			return true
		}
	}
	return false
}
