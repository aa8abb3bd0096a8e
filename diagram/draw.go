package diagram

import (
	"strings"

	"torchon/api"
	"torchon/words"
)

// The first words of lines.
const (
	diagramLine = "diagram"
	letterLine  = "letter"
)

// What the drawing of a row consists of, besides letters.
const (
	free  = "|"
	left  = "("
	right = ")"
	blank = " "
)

// Draw returns the text of the diagram of a sheet.
func Draw(s api.Sheet) (string, api.Errno) {
	looks, e := Letters(s)
	if e != api.OK {
		return "", e
	}
	rows, _ := Rows(s) // it has no error, as Letters has none
	lines := []string{line(diagramLine, digits(s.Pairs), digits(len(rows)))}
	letters := map[string]string{}
	for i, look := range looks {
		letters[look] = alphabet[i : i+1]
		lines = append(lines, line(letterLine, letters[look], look))
	}
	for n, drawing := range drawings(s.Pairs, len(rows)) {
		for _, i := range rows[n] {
			w := s.Works[i]
			copy(drawing[2*w.At:], left+letters[lookOf(w)]+right)
		}
		lines = append(lines, string(drawing))
	}
	return strings.Join(lines, "\n") + "\n", api.OK
}

// drawings returns the drawings of so many rows without works. They lie one after the other in the same memory, so none may grow.
func drawings(pairs, rows int) [][]byte {
	width := 2*pairs - 1
	row := strings.Repeat(free+blank, pairs)[:width]
	all := []byte(strings.Repeat(row, rows))
	l := make([][]byte, rows)
	for n := range l {
		from, to := n*width, (n+1)*width
		l[n] = all[from:to:to]
	}
	return l
}

// line returns the line with some words.
func line(l ...string) string {
	return strings.Join(l, blank)
}

func digits(n int) string {
	return words.Digits(int64(n))
}
