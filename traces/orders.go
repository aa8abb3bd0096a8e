package traces

import (
	"iter"

	"torchon/api"
	"torchon/sheet"
)

// A set is a set of works, with a bit for each of them.
type set uint16

func (s set) with(work int) set { return s | 1<<work }

func (s set) has(work int) bool { return s>>work&1 == 1 }

// A counts says in how many orders a sheet, and what is left of it, can be done.
type counts struct {
	works int
	first [api.MaxTrWorks]set // of each work: those that must be done directly before it
	after map[set]int64       // in how many orders the works that are not in a set can be done
}

// countsOf returns the counts of a sheet, if it has few enough works and orders.
func countsOf(s api.Sheet) (counts, api.Errno) {
	all, e := steps(s)
	if e != api.OK {
		return counts{}, e
	}
	if len(s.Works) > api.MaxTrWorks {
		return counts{}, api.ErrLong
	}
	c := counts{works: len(s.Works)}
	for _, step := range all {
		c.first[step.To] = c.first[step.To].with(step.From)
	}
	var whole set
	for i := range s.Works {
		whole = whole.with(i)
	}
	c.after = map[set]int64{whole: 1}
	if c.orders(0) > api.MaxTrOrders {
		return counts{}, api.ErrFull
	}
	return c, api.OK
}

// ready yields the works that can be done next after a set, ascending.
func (c *counts) ready(done set) iter.Seq[int] {
	return func(yield func(int) bool) {
		for i := range c.works {
			if !done.has(i) && c.first[i]&^done == 0 && !yield(i) {
				return
			}
		}
	}
}

// orders returns in how many orders the works that are not in a set can be done. There are at most 16!, which fits.
func (c *counts) orders(done set) int64 {
	many, ok := c.after[done]
	if ok {
		return many
	}
	for i := range c.ready(done) {
		many += c.orders(done.with(i))
	}
	c.after[done] = many
	return many
}

// walk returns an order: next is always the first of the works that are ready which takes accepts. It is told in how many orders one could go on after the work.
func (c *counts) walk(takes func(work int, many int64) bool) []int {
	order := make([]int, 0, c.works)
	var done set
	for range c.works {
		for i := range c.ready(done) {
			if takes(i, c.orders(done.with(i))) {
				order = append(order, i)
				done = done.with(i)
				break
			}
		}
	}
	return order
}

// Orders returns how many orders a sheet has.
func Orders(s api.Sheet) (int64, api.Errno) {
	c, e := countsOf(s)
	if e != api.OK {
		return 0, e
	}
	return c.orders(0), api.OK
}

// Nth returns the order with a number.
func Nth(s api.Sheet, k int64) ([]int, api.Errno) {
	c, e := countsOf(s)
	switch {
	case e != api.OK:
		return nil, e
	case k < 0:
		return nil, api.ErrRange
	case k >= c.orders(0):
		return nil, api.ErrNone
	}
	return c.walk(func(_ int, many int64) bool {
		if k < many {
			return true
		}
		k -= many
		return false
	}), api.OK
}

// Rank returns the number of an order.
func Rank(s api.Sheet, order []int) (int64, api.Errno) {
	c, e := countsOf(s)
	if e != api.OK {
		return 0, e
	}
	if _, e := sheet.Reorder(s, order); e != api.OK {
		return 0, e
	}
	var number int64
	k := 0
	c.walk(func(work int, many int64) bool {
		if work == order[k] {
			k++
			return true
		}
		number += many
		return false
	})
	return number, api.OK
}
