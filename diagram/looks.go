package diagram

import (
	"torchon/api"
	"torchon/stitches"
)

// alphabet is the letters, in their order.
const alphabet = "ABCDEFGHIJKLMNOPQRSTUVWXYZabcdefghijklmnopqrstuvwxyz"

// The looks that are no words of stitches.
const (
	wordless = "-"
	sewing   = "sew"
)

// Letters returns the looks of the works of a sheet, in the order of their letters.
func Letters(s api.Sheet) ([]string, api.Errno) {
	ordered, e := Sheet(s)
	if e != api.OK {
		return nil, e
	}
	var looks []string
	met := map[string]bool{}
	for _, w := range ordered.Works {
		if look := lookOf(w); !met[look] {
			met[look] = true
			looks = append(looks, look)
		}
	}
	if len(looks) > api.MaxDiLetters {
		return nil, api.ErrFull
	}
	return looks, api.OK
}

// lookOf returns the look of a work.
func lookOf(w api.Work) string {
	switch {
	case w.Kind == api.WkSew:
		return sewing
	case w.Word == "":
		return wordless
	}
	return w.Word
}

// workOf returns the work with a look that has its left pair in the place 0, and whether there is one.
func workOf(look string) (api.Work, bool) {
	switch look {
	case sewing:
		return api.Work{Kind: api.WkSew}, true
	case wordless:
		return api.Work{Kind: api.WkStitch}, true
	}
	return api.Work{Kind: api.WkStitch, Word: look}, look != "" && stitches.Check(look) == api.OK
}
