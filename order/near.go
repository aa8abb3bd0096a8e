package order

import "torchon/api"

// none stands for a work where there is none.
const none = -1

// A moment is when some works are made; last is the last one of them.
type moment struct {
	made set
	last int
}

// Near returns the least order with the fewest steps aside, and how many it has.
func Near(s api.Sheet, wishes [][2]int) ([]int, int, api.Errno) {
	p, e := planOf(s, wishes)
	switch {
	case e != api.OK:
		return nil, 0, e
	case len(s.Works) > api.MaxOrWorks:
		return nil, 0, api.ErrLong
	case p.isCircular():
		return nil, 0, ErrCircle
	}
	fewest := p.fewest()
	now := moment{last: none}
	aside := fewest(now)
	order := make([]int, 0, len(s.Works))
	for range s.Works {
		for i := range p.ready(now.made) {
			more, next := p.do(i, now)
			if more+fewest(next) == fewest(now) {
				order, now = append(order, i), next
				break
			}
		}
	}
	return order, aside, api.OK
}

// fewest returns a function that finds the fewest steps aside that are left at a moment.
func (p *plan) fewest() func(moment) int {
	known := map[moment]int{}
	var fewest func(moment) int
	fewest = func(now moment) int {
		if now.made == p.all {
			return 0
		}
		if n, ok := known[now]; ok {
			return n
		}
		least := len(p.works)
		for i := range p.ready(now.made) {
			more, next := p.do(i, now)
			least = min(least, more+fewest(next))
		}
		known[now] = least
		return least
	}
	return fewest
}

// do returns how many steps aside lead to a work, and the moment after it.
func (p *plan) do(i int, now moment) (int, moment) {
	aside := 0
	if now.last != none && !touch(p.works[now.last], p.works[i]) {
		aside = 1
	}
	return aside, moment{now.made.with(i), i}
}
