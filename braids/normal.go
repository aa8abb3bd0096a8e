package braids

import (
	"slices"

	"torchon/api"
)

// Normal returns the normal form of w: a power of delta, and the permutations of the factors.
func Normal(n int, w []int) (power int, factors [][]int, e api.Errno) {
	if e := Check(n, w); e != api.OK {
		return 0, nil, e
	}
	form := normalOf(n, w)
	for _, s := range form.factors {
		factors = append(factors, slices.Clone(s[:n]))
	}
	return form.power, factors, api.OK
}

// A normal is a normal form of n strands.
type normal struct {
	n, power int
	factors  []simple
}

func normalOf(n int, w []int) normal {
	f := normal{n: n}
	for _, letter := range w {
		f.add(letter)
	}
	return f
}

// add puts a letter behind the braid.
func (f *normal) add(letter int) {
	if letter > 0 {
		f.factors = append(f.factors, flat().swapped(letter))
	} else {
		// -i is the inverse of delta, and then delta without its last letter i, which is the same as delta without its first letter n - i.
		f.undoDelta()
		f.factors = append(f.factors, delta(f.n).swapped(f.n+letter))
	}
	f.pushLeft()
	if last := len(f.factors) - 1; f.factors[last] == flat() {
		f.factors = f.factors[:last]
	}
	if len(f.factors) > 0 && f.factors[0] == delta(f.n) {
		f.power++
		f.factors = f.factors[1:]
	}
}

// undoDelta puts the inverse of delta behind the braid. It moves to the front, past all factors, and turns each of them.
func (f *normal) undoDelta() {
	f.power--
	for k, s := range f.factors {
		f.factors[k] = s.turned(f.n)
	}
}

// pushLeft brings the factors into normal form; all but the last one are in it already. So one pass to the left is enough, and it ends at the first factor that takes nothing over from the next one.
func (f *normal) pushLeft() {
	for k := len(f.factors) - 1; k > 0; k-- {
		left, right := takeOver(f.n, f.factors[k-1], f.factors[k])
		if left == f.factors[k-1] {
			return
		}
		f.factors[k-1], f.factors[k] = left, right
	}
}

// takeOver moves letters from the beginning of right to the end of left, for as long as left remains simple.
func takeOver(n int, left, right simple) (simple, simple) {
	back := left.backwards()
push:
	for {
		for i := 1; i < n; i++ {
			if right.begins(i) && !back.begins(i) {
				back, right = back.swapped(i), right.swapped(i)
				continue push
			}
		}
		return back.backwards(), right
	}
}

// Word returns the word that consists of a power of delta, and then of the least words of the factors.
func Word(n, power int, factors [][]int) ([]int, api.Errno) {
	if n < 1 || n > api.MaxStrands {
		return nil, api.ErrArg
	}
	word := deltas(n, power)
	for _, list := range factors {
		s, ok := simpleOf(n, list)
		if !ok {
			return nil, api.ErrForm
		}
		// A word that is too long grows no more: the other factors are only checked.
		if len(word) <= api.MaxBraid {
			word = append(word, s.least(n)...)
		}
	}
	if len(word) > api.MaxBraid {
		return nil, api.ErrLong
	}
	return word, api.OK
}

// deltas returns the word of a power of delta, or one that is too long as well.
func deltas(n, power int) []int {
	once := delta(n).least(n)
	if power < 0 {
		once = inverse(once)
	}
	// The least int has no opposite, so the power is cut before.
	times := number(min(max(power, -api.MaxBraid-1), api.MaxBraid+1))
	return slices.Repeat(once, times)
}

// Same returns whether a and b are the same braid.
func Same(n int, a, b []int) (bool, api.Errno) {
	if e := checkBoth(n, a, b); e != api.OK {
		return false, e
	}
	f, g := normalOf(n, a), normalOf(n, b)
	return f.power == g.power && slices.Equal(f.factors, g.factors), api.OK
}

// Trivial returns whether w is the same braid as no letters.
func Trivial(n int, w []int) (bool, api.Errno) {
	return Same(n, w, nil)
}
