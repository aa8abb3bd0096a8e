package pairs

import "torchon/api"

// A set is a set of works, with a bit for each of them.
type set uint16

// A moment is when some works are made, and the others are left.
type moment struct {
	made  set
	tally tally
}

// A plan is works, and for each of them those from which an edge leads to it. All others that are before it are before one of these.
type plan struct {
	works []api.Work
	above [api.MaxPrWorks]set
}

// Fewest returns the least thrifty order, and its need.
func Fewest(s api.Sheet) ([]int, int, api.Errno) {
	all, e := steps(s)
	if e != api.OK {
		return nil, 0, e
	}
	if len(s.Works) > api.MaxPrWorks {
		return nil, 0, api.ErrLong
	}
	p := plan{works: s.Works}
	for _, step := range all {
		p.above[step.To] |= 1 << step.From
	}
	needAfter := p.needs()
	now := moment{tally: tallyOf(s.Works)}
	need := needAfter(now)
	order := make([]int, 0, len(s.Works))
	for range s.Works {
		// The rest may need more than it has to, as long as the whole order does not.
		for i := range s.Works {
			if !p.isReady(i, now) {
				continue
			}
			hanging, next := p.do(i, now)
			if max(hanging, needAfter(next)) <= need {
				order, now = append(order, i), next
				break
			}
		}
	}
	return order, need, api.OK
}

// needs returns a function that finds the least need of the works that are left at a moment.
func (p *plan) needs() func(moment) int {
	known := map[set]int{1<<len(p.works) - 1: 0}
	var need func(moment) int
	need = func(now moment) int {
		if n, ok := known[now.made]; ok {
			return n
		}
		least := api.MaxPairs
		for i := range p.works {
			if p.isReady(i, now) {
				hanging, next := p.do(i, now)
				least = min(least, max(hanging, need(next)))
			}
		}
		known[now.made] = least
		return least
	}
	return need
}

// isReady returns whether a work can be made next.
func (p *plan) isReady(i int, now moment) bool {
	return now.made>>i&1 == 0 && p.above[i]&^now.made == 0
}

// do returns how many pairs hang while a work is made, and the moment after it.
func (p *plan) do(i int, now moment) (int, moment) {
	now.made |= 1 << i
	hanging := now.tally.do(p.works[i])
	return hanging, now
}
