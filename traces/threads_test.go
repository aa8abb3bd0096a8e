package traces_test

import (
	"math/rand"
	"slices"
	"testing"

	"torchon/api"
	"torchon/stitches"
	"torchon/traces"
)

// A meeting of a thread with another one.
type meeting struct {
	other int
	over  bool
}

// histories returns the meetings of each thread, which are numbered by where they begin.
func histories(s api.Sheet) [][]meeting {
	met := make([][]meeting, 2*s.Pairs)
	line := upTo(2 * s.Pairs)
	for _, w := range s.Works {
		crossings, _ := stitches.Crossings(w.Word)
		for _, c := range crossings {
			right := 2*w.At + max(c, -c)
			a, b := line[right-1], line[right]
			met[a] = append(met[a], meeting{b, c > 0})
			met[b] = append(met[b], meeting{a, c < 0})
			line[right-1], line[right] = b, a
		}
	}
	return met
}

func sameHistories(a, b api.Sheet) bool {
	return slices.EqualFunc(histories(a), histories(b), func(x, y []meeting) bool { return slices.Equal(x, y) })
}

// P5.5: in sheets that are the same lace, each thread meets the same threads in the same order, over or under likewise.
func TestThreadsOfTheSameLace(t *testing.T) {
	all := smallSheets()
	for _, a := range all {
		for _, b := range all {
			if same, _ := traces.Same(a, b); same && !sameHistories(a, b) {
				t.Fatalf("%v and %v: the same lace, but other histories", a, b)
			}
		}
	}
	const letters = "CLRTPclrt"
	r := rand.New(rand.NewSource(8))
	for range 100 {
		s := someSheet(r, 2+r.Intn(10), r.Intn(40))
		for i := range s.Works {
			if s.Works[i].Kind == api.WkStitch {
				word := make([]byte, r.Intn(17))
				for k := range word {
					word[k] = letters[r.Intn(len(letters))]
				}
				s.Works[i].Word = string(word)
			}
		}
		x := shuffled(r, s).sheet
		if same, e := traces.Same(s, x); !same || e != api.OK || !sameHistories(s, x) {
			t.Fatalf("%v and %v: Same %v, %d; the histories are the same: %v", s, x, same, e, sameHistories(s, x))
		}
	}
}

// P5.5: where two works that touch and cross threads are exchanged, threads meet others, and it is not the same lace.
func TestThreadsOfAnotherLace(t *testing.T) {
	for _, c := range [][2]api.Sheet{
		{halves(3, 0, 1), halves(3, 1, 0)},
		{halves(4, 0, 2, 1), halves(4, 0, 1, 2)},
		{exampleA(), {Pairs: 4, Works: []api.Work{stitch(0, "CTC"), stitch(2, "CTC"), stitch(1, "CT")}}},
	} {
		if same, e := traces.Same(c[0], c[1]); same || e != api.OK || sameHistories(c[0], c[1]) {
			t.Errorf("%v: Same %v, %d", c, same, e)
		}
	}
}
