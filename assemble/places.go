package assemble

import (
	"torchon/api"
	"torchon/sheet"
	"torchon/stitches"
)

// A turn exchanges left and right; word says what becomes of the words.
type turn struct {
	word func(word string) (string, api.Errno)
}

// Flip returns a sheet as it is worked on the other side.
func Flip(a api.Sheet) (api.Sheet, api.Errno) {
	return turn{word: stitches.Flip}.of(a)
}

// Mirror returns a sheet as it looks in a mirror.
func Mirror(a api.Sheet) (api.Sheet, api.Errno) {
	return turn{word: stitches.Mirror}.of(a)
}

// of returns a sheet, turned.
func (t turn) of(a api.Sheet) (api.Sheet, api.Errno) {
	if e := sheet.Check(a); e != api.OK {
		return api.Sheet{}, e
	}
	s := api.Sheet{Pairs: a.Pairs}
	for _, w := range a.Works {
		w.At = a.Pairs - 2 - w.At
		w.Word, _ = t.word(w.Word) // no word of a sheet has an error
		s.Works = append(s.Works, w)
	}
	return s, api.OK
}

// Place returns a sheet at the pair from of a line with so many pairs.
func Place(a api.Sheet, from, pairs int) (api.Sheet, api.Errno) {
	if e := sheet.Check(a); e != api.OK {
		return api.Sheet{}, e
	}
	// The pairs are not added to from, as the sum may be beyond every int.
	if pairs < 2 || pairs > api.MaxPairs || from < 0 || from > pairs-a.Pairs {
		return api.Sheet{}, api.ErrRange
	}
	return api.Sheet{Pairs: pairs, Works: moved(a.Works, from)}, api.OK
}

// Cut returns what can be made of a sheet with its pairs from from to to alone.
func Cut(a api.Sheet, from, to int) (api.Sheet, api.Errno) {
	if e := sheet.Check(a); e != api.OK {
		return api.Sheet{}, e
	}
	if from < 0 || to >= a.Pairs || from >= to {
		return api.Sheet{}, api.ErrRange
	}
	return api.Sheet{Pairs: to - from + 1, Works: moved(within(a, from, to), -from)}, api.OK
}

// within returns the works that take only places from from to to, and before which there are only such works.
func within(a api.Sheet, from, to int) []api.Work {
	var shut [api.MaxPairs]bool
	for place := range a.Pairs {
		shut[place] = place < from || place > to
	}
	var works []api.Work
	for _, w := range a.Works {
		if !shut[w.At] && !shut[w.At+1] {
			works = append(works, w)
			continue
		}
		// A work that is left out is before all later ones in its places.
		shut[w.At], shut[w.At+1] = true, true
	}
	return works
}
