package order

import "torchon/api"

// Count returns how many orders respect the wishes.
func Count(s api.Sheet, wishes [][2]int) (int64, api.Errno) {
	p, e := planOf(s, wishes)
	if e != api.OK {
		return 0, e
	}
	if len(s.Works) > api.MaxOrCount {
		return 0, api.ErrLong
	}
	return p.count()
}

// count returns in how many orders the works can be made; an error if these are too many.
func (p *plan) count() (many int64, e api.Errno) {
	defer func() {
		if fault := recover(); fault != nil {
			many, e = 0, fault.(api.Errno)
		}
	}()
	known := map[set]int64{p.all: 1}
	var after func(made set) int64
	after = func(made set) int64 {
		many, ok := known[made]
		if ok {
			return many
		}
		for i := range p.ready(made) {
			many += after(made.with(i))
			// The whole has at least as many orders as what is left of it.
			if many > api.MaxOrders {
				panic(api.ErrFull)
			}
		}
		known[made] = many
		return many
	}
	return after(set{}), api.OK
}
