package diagram_test

import (
	"math/rand"
	"testing"

	"torchon/api"
	"torchon/diagram"
)

// P14.1, P14.3 and P14.4: Rows, Sheet, Letters, Draw and Read of many sheets, against the definitions.
func TestManySheets(t *testing.T) {
	manySheets(60, func(s api.Sheet) {
		rows := rowsOf(s)
		checkRows(t, s, rows)
		checkSheet(t, s, inRows(s))
		checkLetters(t, s, looksOf(s))
		text := textOf(s)
		checkDraw(t, s, text)
		checkRead(t, text, inRows(s), 0, api.OK)
	})
}

// P14.2: Cut of many sheets, with all rows from which and up to which there is a sheet, and with some from which there is none.
func TestManyCuts(t *testing.T) {
	none := 0
	manySheets(12, func(s api.Sheet) {
		rows := len(rowsOf(s))
		for from := -1; from <= rows+1; from++ {
			for to := -1; to <= rows+1; to++ {
				want, e := cutOf(s, from, to)
				checkCut(t, s, from, to, want, e)
				if e != api.OK {
					none++
				}
			}
		}
	})
	if none < 1000 {
		t.Errorf("only %d cuts have an error", none)
	}
}

// P14.1 and P14.3: sheets with about as many looks as there are letters.
func TestManyLooks(t *testing.T) {
	r := rand.New(rand.NewSource(3))
	full, drawn := 0, 0
	for range 300 {
		s := someSheet(r, 2+r.Intn(23), 100+r.Intn(200), 3)
		for i := range s.Works {
			if s.Works[i].Kind == api.WkStitch && r.Intn(8) > 0 {
				s.Works[i].Word = spelt(r.Intn(46 + len(s.Works)%20))
			}
		}
		if len(looksOf(s)) <= 52 {
			drawn++
			checkLetters(t, s, looksOf(s))
			checkDraw(t, s, textOf(s))
			checkRead(t, textOf(s), inRows(s), 0, api.OK)
			continue
		}
		full++
		looks, e := diagram.Letters(s)
		text, f := diagram.Draw(s)
		if e != api.ErrFull || f != api.ErrFull || len(looks) > 0 || text != "" {
			t.Fatalf("Letters and Draw of %v: %v, %d, and %q, %d", s, looks, e, text, f)
		}
		checkRows(t, s, rowsOf(s))
		checkSheet(t, s, inRows(s))
	}
	if full < 50 || drawn < 50 {
		t.Errorf("%d are full, and %d are drawn", full, drawn)
	}
}
