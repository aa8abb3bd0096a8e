package assemble

import (
	"slices"
	"strings"

	"torchon/api"
	"torchon/sheet"
)

// Beside returns a sheet and another one on the right of it.
func Beside(a, b api.Sheet) (api.Sheet, api.Errno) {
	if e := checkBoth(a, b); e != api.OK {
		return api.Sheet{}, e
	}
	if a.Pairs+b.Pairs > api.MaxPairs || len(a.Works)+len(b.Works) > api.MaxWorks {
		return api.Sheet{}, api.ErrLong
	}
	works := slices.Concat(moved(a.Works, 0), moved(b.Works, a.Pairs))
	return api.Sheet{Pairs: a.Pairs + b.Pairs, Works: works}, api.OK
}

// Below returns a sheet and another one, on the same pairs, below it.
func Below(a, b api.Sheet) (api.Sheet, api.Errno) {
	if e := checkBoth(a, b); e != api.OK {
		return api.Sheet{}, e
	}
	if a.Pairs != b.Pairs {
		return api.Sheet{}, api.ErrArg
	}
	if len(a.Works)+len(b.Works) > api.MaxWorks {
		return api.Sheet{}, api.ErrLong
	}
	return api.Sheet{Pairs: a.Pairs, Works: slices.Concat(moved(a.Works, 0), moved(b.Works, 0))}, api.OK
}

// Times returns n times a sheet, below each other.
func Times(a api.Sheet, n int) (api.Sheet, api.Errno) {
	if e := sheet.Check(a); e != api.OK {
		return api.Sheet{}, e
	}
	if n < 0 || n > api.MaxWorks {
		return api.Sheet{}, api.ErrRange
	}
	if n*len(a.Works) > api.MaxWorks {
		return api.Sheet{}, api.ErrLong
	}
	return api.Sheet{Pairs: a.Pairs, Works: slices.Repeat(moved(a.Works, 0), n)}, api.OK
}

// checkBoth returns what is wrong with the first one of two sheets that is wrong.
func checkBoth(a, b api.Sheet) api.Errno {
	if e := sheet.Check(a); e != api.OK {
		return e
	}
	return sheet.Check(b)
}

// moved returns works so many places further on the right, in new memory.
func moved(works []api.Work, by int) []api.Work {
	l := make([]api.Work, 0, len(works))
	for _, w := range works {
		w.At += by
		w.Word = strings.Clone(w.Word)
		l = append(l, w)
	}
	return l
}
