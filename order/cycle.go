package order

import "torchon/api"

// Cycle returns the least one of the cycles with the fewest works.
func Cycle(s api.Sheet, wishes [][2]int) ([]int, api.Errno) {
	p, e := planOf(s, wishes)
	if e != api.OK {
		return nil, e
	}
	var best []int
	for i := range s.Works {
		far := p.stepsTo(i)
		if many := far[i]; many > 0 && (best == nil || many < len(best)) {
			best = p.cycle(i, &far)
		}
	}
	if best == nil {
		return nil, api.ErrNone
	}
	return best, api.OK
}

// stepsTo returns how many steps, each from a work to one that it comes directly before, lead from each work to one work, and from that one around the shortest cycle with it. It is 0 for works from which none do, and may be for those from which no fewer do than around the cycle.
func (p *plan) stepsTo(work int) [api.MaxWorks]int {
	var far [api.MaxWorks]int
	found := []int{work}
	for k := 0; k < len(found) && far[work] == 0; k++ {
		for i := range p.works {
			if far[i] == 0 && p.above[found[k]].has(i) {
				far[i] = far[found[k]] + 1
				found = append(found, i)
			}
		}
	}
	return far
}

// cycle returns the least one of the cycles with the fewest works that begin with a work, to which far says how many steps lead.
func (p *plan) cycle(start int, far *[api.MaxWorks]int) []int {
	l := []int{start}
	for left := far[start] - 1; left > 0; left-- {
		last := l[len(l)-1]
		for i := range p.works {
			if far[i] == left && p.above[i].has(last) {
				l = append(l, i)
				break
			}
		}
	}
	return l
}
