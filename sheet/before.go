package sheet

import (
	"slices"

	"torchon/api"
)

// Before reports whether a work is before another one.
func Before(s api.Sheet, a, b int) (bool, api.Errno) {
	l, e := chain(s, a, b)
	return len(l) > 0, e
}

// Chain returns works that show that one is before another one.
func Chain(s api.Sheet, a, b int) ([]int, api.Errno) {
	l, e := chain(s, a, b)
	if e == api.OK && len(l) == 0 {
		return nil, api.ErrNone
	}
	return l, e
}

// chain returns the least of the shortest chains from a to b; nothing if there is none.
func chain(s api.Sheet, a, b int) ([]int, api.Errno) {
	if e := Check(s); e != api.OK {
		return nil, e
	}
	if !isWork(s, a) || !isWork(s, b) {
		return nil, api.ErrArg
	}
	var met set
	var back [api.MaxWorks]int
	found := []int{a}
	// Works are found in the order of their shortest and least chains, since each one that is found finds the next ones by their indices; so the work that finds another one first is the one before it in its chain.
search:
	for k := 0; k < len(found); k++ {
		last := found[k]
		for next := last + 1; next <= b; next++ {
			if met.has(next) || !touch(s.Works[last], s.Works[next]) {
				continue
			}
			met.add(next)
			back[next] = last
			if next == b {
				break search
			}
			found = append(found, next)
		}
	}
	if !met.has(b) {
		return nil, api.OK
	}
	return path(back, a, b), api.OK
}

// path returns the works from a to b, each of which is the one that back has for the next one.
func path(back [api.MaxWorks]int, a, b int) []int {
	l := []int{b}
	for i := b; i != a; {
		i = back[i]
		l = append(l, i)
	}
	slices.Reverse(l)
	return l
}
