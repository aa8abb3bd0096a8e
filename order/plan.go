package order

import (
	"iter"
	"slices"

	"torchon/api"
	"torchon/sheet"
)

const bits = 64

// A set is a set of works, with a bit for each of them.
type set [(api.MaxWorks + bits - 1) / bits]uint64

func (s set) with(work int) set {
	s[work/bits] |= 1 << (work % bits)
	return s
}

func (s set) has(work int) bool {
	return s[work/bits]>>(work%bits)&1 == 1
}

// isIn returns whether all works of a set are in another one.
func (s set) isIn(t set) bool {
	for i, word := range s {
		if word&^t[i] != 0 {
			return false
		}
	}
	return true
}

// A plan is works, the set of all of them, and for each of them those that come directly before it.
type plan struct {
	works []api.Work
	all   set
	above [api.MaxWorks]set
}

// planOf returns the plan of a sheet with wishes; an error if one of both is none.
func planOf(s api.Sheet, wishes [][2]int) (*plan, api.Errno) {
	if e := sheet.Check(s); e != api.OK {
		return nil, e
	}
	if len(wishes) > api.MaxOrWishes {
		return nil, api.ErrLong
	}
	p := &plan{works: s.Works}
	for i, w := range s.Works {
		p.all = p.all.with(i)
		for k, v := range s.Works[:i] {
			if touch(v, w) {
				p.above[i] = p.above[i].with(k)
			}
		}
	}
	for _, wish := range wishes {
		sooner, later := wish[0], wish[1]
		if !p.isWork(sooner) || !p.isWork(later) || sooner == later {
			return nil, api.ErrArg
		}
		p.above[later] = p.above[later].with(sooner)
	}
	return p, api.OK
}

// isWork returns whether a number is the index of a work.
func (p *plan) isWork(i int) bool {
	return 0 <= i && i < len(p.works)
}

// ready yields the works that can be made next when some are made, ascending.
func (p *plan) ready(made set) iter.Seq[int] {
	return func(yield func(int) bool) {
		for i := range p.works {
			if p.isReady(i, made) && !yield(i) {
				return
			}
		}
	}
}

// isReady returns whether a work is not made, and all are that come directly before it.
func (p *plan) isReady(i int, made set) bool {
	return !made.has(i) && p.above[i].isIn(made)
}

// isCircular returns whether some works can never be made, since they wait for each other.
func (p *plan) isCircular() bool {
	var made set
	for made != p.all {
		before := made
		for i := range p.ready(before) {
			made = made.with(i)
		}
		if made == before {
			return true
		}
	}
	return false
}

// isOrder returns whether a list is an order that respects the wishes.
func (p *plan) isOrder(order []int) bool {
	var made set
	for _, i := range order {
		if !p.isWork(i) || !p.isReady(i, made) {
			return false
		}
		made = made.with(i)
	}
	return made == p.all
}

// orders yields the orders that begin with some works, and go on with one that is at least so great, ascending. The works must not be circular, or looking for a first order may never end.
func (p *plan) orders(begin []int, least int) iter.Seq[[]int] {
	return func(yield func([]int) bool) {
		if len(begin) == len(p.works) {
			yield(begin)
			return
		}
		var made set
		for _, i := range begin {
			made = made.with(i)
		}
		for i := range p.ready(made) {
			if i < least {
				continue
			}
			for order := range p.orders(append(slices.Clip(begin), i), 0) {
				if !yield(order) {
					return
				}
			}
		}
	}
}
