package motifs_test

import (
	"math"
	"slices"
	"strings"

	"torchon/api"
	"torchon/motifs"
)

// The judge says of each motif what its work with a number is, from the numbers alone.
// A look is a stitch: its word and its place.
type look struct {
	word string
	at   int
}

func plaitWork(int) look { return look{"CT", 0} }

// picotWords has the words of the picots, written out.
var picotWords = []string{"", "LPL", "LLPLL", "LLLPLLL", "LLLLPLLLL", "LLLLLPLLLLL", "LLLLLLPLLLLLL", "LLLLLLLPLLLLLLL"}

// spiderWork: twists, n n stitches, a pin, n n stitches, twists.
func spiderWork(n, t, i int) look {
	twists := n
	if t == 0 {
		twists = 0
	}
	if i < twists {
		return look{"TTTTTTTTTTTTTTTT"[:t], 2 * i}
	}
	i -= twists
	if i == n*n {
		return look{"P", n - 1}
	}
	if i > n*n {
		i -= n*n + 1
	}
	if i >= n*n {
		return look{"TTTTTTTTTTTTTTTT"[:t], 2 * (i - n*n)}
	}
	return look{"CTC", n - 1 - i/n + i%n}
}

func spiderMany(n, t int) int {
	many := 2*n*n + 1
	if t > 0 {
		many += 2 * n
	}
	return many
}

// fanWork: the row k begins behind (k - 1)(k + 1) works, and the rows after the longest one are those before it, backwards: a row is the same from either end.
func fanWork(n, i int) look {
	if many := fanMany(n); i > many/2 {
		i = many - 1 - i
	}
	k := 1
	for k*(k+2) <= i {
		k++
	}
	i -= (k - 1) * (k + 1)
	switch {
	case i < k:
		return look{"CTC", i}
	case i == k:
		return look{"RP", k - 1}
	}
	return look{"CTC", 2*k - i}
}

func fanMany(n int) int { return 2*n*n + 2*n - 1 }

// footsideWork: the place goes down from n - 1 to 0, stays for the pin, and goes up again.
func footsideWork(n, i int) look {
	i %= 2*n + 1
	switch {
	case i < n:
		return look{"CTC", n - 1 - i}
	case i == n:
		return look{"LLP", 0}
	}
	return look{"CTC", i - n - 1}
}

func windmillWork(i int) look {
	return []look{{"CTC", 1}, {"CTC", 0}, {"CTC", 2}, {"P", 1}, {"CTC", 1}}[i]
}

// sheetOf returns a sheet of so many works.
func sheetOf(pairs, many int, work func(i int) look) api.Sheet {
	s := api.Sheet{Pairs: pairs}
	for i := range many {
		x := work(i)
		s.Works = append(s.Works, api.Work{Kind: api.WkStitch, At: x.at, Word: x.word})
	}
	return s
}

// ranges has, for each name, from where to where each size may be.
var ranges = map[string][][2]int{
	"plait": {{1, 100}}, "picot": {{1, 7}}, "spider": {{1, 6}, {0, 16}}, "fan": {{1, 12}}, "footside": {{1, 23}, {1, math.MaxInt}}, "windmill": {},
}

// judge returns the motif with a name and sizes, or the error.
func judge(name string, sizes []int) (api.Sheet, api.Errno) {
	r, found := ranges[name]
	if !found {
		return api.Sheet{}, api.ErrNone
	}
	if len(sizes) != len(r) {
		return api.Sheet{}, api.ErrArg
	}
	for i, n := range sizes {
		if n < r[i][0] || n > r[i][1] {
			return api.Sheet{}, api.ErrRange
		}
	}
	if name == "footside" && (sizes[1] > 400 || sizes[1]*(2*sizes[0]+1) > 400) {
		return api.Sheet{}, api.ErrLong
	}
	return judged(name, sizes), api.OK
}

// judged returns the motif with a name and sizes that are valid.
func judged(name string, l []int) api.Sheet {
	switch name {
	case "plait":
		return sheetOf(2, l[0], plaitWork)
	case "picot":
		return sheetOf(2, 1, func(int) look { return look{picotWords[l[0]], 0} })
	case "spider":
		return sheetOf(2*l[0], spiderMany(l[0], l[1]), func(i int) look { return spiderWork(l[0], l[1], i) })
	case "fan":
		return sheetOf(l[0]+1, fanMany(l[0]), func(i int) look { return fanWork(l[0], i) })
	case "footside":
		return sheetOf(l[0]+1, l[1]*(2*l[0]+1), func(i int) look { return footsideWork(l[0], i) })
	}
	return sheetOf(4, 5, windmillWork)
}

// A call is a name and sizes.
type call struct {
	name  string
	sizes []int
}

// valid returns all names and sizes of which there are motifs.
func valid() []call {
	l := []call{{"windmill", nil}}
	for n := 1; n <= 100; n++ {
		l = append(l, call{"plait", []int{n}})
	}
	for n := 1; n <= 7; n++ {
		l = append(l, call{"picot", []int{n}})
	}
	for n := 1; n <= 12; n++ {
		l = append(l, call{"fan", []int{n}})
	}
	for n := 1; n <= 6; n++ {
		for t := 0; t <= 16; t++ {
			l = append(l, call{"spider", []int{n, t}})
		}
	}
	for n := 1; n <= 23; n++ {
		for m := 1; m*(2*n+1) <= 400; m++ {
			l = append(l, call{"footside", []int{n, m}})
		}
	}
	return l
}

// direct calls the function of a name, with as many sizes as it has.
func direct(c call) (api.Sheet, api.Errno) {
	switch c.name {
	case "plait":
		return motifs.Plait(c.sizes[0])
	case "picot":
		return motifs.Picot(c.sizes[0])
	case "spider":
		return motifs.Spider(c.sizes[0], c.sizes[1])
	case "fan":
		return motifs.Fan(c.sizes[0])
	case "footside":
		return motifs.Footside(c.sizes[0], c.sizes[1])
	}
	return motifs.Windmill(), api.OK
}

func equal(a, b api.Sheet) bool {
	return a.Pairs == b.Pairs && slices.Equal(a.Works, b.Works)
}

// isZero reports whether a sheet has nothing.
func isZero(s api.Sheet) bool { return equal(s, api.Sheet{}) }

// stitchesOf returns a sheet of stitches that are written as words with places, such as CTC@0.
func stitchesOf(pairs int, text string) api.Sheet {
	s := api.Sheet{Pairs: pairs}
	for _, f := range strings.Fields(text) {
		word, at, _ := strings.Cut(f, "@")
		s.Works = append(s.Works, api.Work{Kind: api.WkStitch, At: int(at[0] - '0'), Word: word})
	}
	return s
}
