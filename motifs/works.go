package motifs

import (
	"strings"

	"torchon/api"
)

// A run is a letter that is repeated.
type run struct {
	letter string
	times  int
}

// word returns the word of runs of letters, one after the other.
func word(runs ...run) string {
	var text strings.Builder
	for _, r := range runs {
		text.WriteString(strings.Repeat(r.letter, r.times))
	}
	return text.String()
}

func stitch(word string, at int) api.Work {
	return api.Work{Kind: api.WkStitch, At: at, Word: word}
}

// along returns stitches with the same word at each place from one to another one, which may be on either side of it.
func along(word string, from, to int) []api.Work {
	step := 1
	if to < from {
		step = -1
	}
	works := []api.Work{stitch(word, from)}
	for at := from; at != to; {
		at += step
		works = append(works, stitch(word, at))
	}
	return works
}
