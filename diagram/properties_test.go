package diagram_test

import (
	"math/rand"
	"slices"
	"testing"

	"torchon/api"
	"torchon/diagram"
	"torchon/sheet"
	"torchon/traces"
)

// changed returns a sheet that differs a little, and mostly is another lace, which depends on r alone.
func changed(r *rand.Rand, s api.Sheet) api.Sheet {
	s.Works = slices.Clone(s.Works)
	i, k := r.Intn(len(s.Works)), r.Intn(len(s.Works))
	switch r.Intn(5) {
	case 0:
		s.Works[i], s.Works[k] = s.Works[k], s.Works[i]
	case 1:
		s.Works[i].At = r.Intn(s.Pairs - 1)
	case 2:
		s.Works[i] = stitch(s.Works[i].At, someWords[r.Intn(7)])
	case 3:
		s.Works = slices.Delete(s.Works, i, i+1)
	case 4:
		s.Pairs = min(24, s.Pairs+r.Intn(2))
	}
	return s
}

// sameDiagrams returns whether two sheets have the same diagram.
func sameDiagrams(t *testing.T, a, b api.Sheet) bool {
	t.Helper()
	text, e := diagram.Draw(a)
	other, f := diagram.Draw(b)
	if e != api.OK || f != api.OK {
		t.Fatalf("Draw of %v: %d, and of %v: %d", a, e, b, f)
	}
	return text == other
}

// P14.5 (T4): two sheets have the same diagram exactly if they are the same lace.
func TestSameDiagrams(t *testing.T) {
	r := rand.New(rand.NewSource(4))
	same, other := 0, 0
	for k := range 3000 {
		a := someSheet(r, 2+r.Intn(9), 1+r.Intn(14), 1+k%3)
		b := exchanged(r, a)
		if !sameDiagrams(t, a, b) {
			t.Fatalf("%v and %v do not have the same diagram", a, b)
		}
		b = exchanged(r, changed(r, a))
		is, e := traces.Same(a, b)
		if e != api.OK || sameDiagrams(t, a, b) != is {
			t.Fatalf("%v and %v: are they the same lace? %v, %d", a, b, is, e)
		}
		if is {
			same++
		} else {
			other++
		}
	}
	if same < 300 || other < 1000 {
		t.Errorf("%d are the same, %d are not", same, other)
	}
}

// P14.5 (T4): so it is with every two small sheets.
func TestSameDiagramsOfSmallSheets(t *testing.T) {
	var small []api.Sheet
	var grow func(s api.Sheet)
	grow = func(s api.Sheet) {
		small = append(small, s)
		for at := range s.Pairs - 1 {
			for _, w := range []api.Work{stitch(at, ""), sew(at)} {
				if len(s.Works) < 3 && (s.Pairs < 5 || w.Kind == api.WkSew) {
					grow(api.Sheet{Pairs: s.Pairs, Works: append(slices.Clone(s.Works), w)})
				}
			}
		}
	}
	for pairs := 2; pairs <= 5; pairs++ {
		grow(api.Sheet{Pairs: pairs})
	}
	drawn := make([]string, len(small))
	for k, s := range small {
		drawn[k], _ = diagram.Draw(s)
	}
	for k, a := range small {
		for m, b := range small {
			if is, e := traces.Same(a, b); e != api.OK || is != (drawn[k] == drawn[m]) {
				t.Fatalf("%v and %v: are they the same lace? %v, %d; %q, %q", a, b, is, e, drawn[k], drawn[m])
			}
		}
	}
}

// P14.6: Read of Draw is the sheet of the diagram, whose works are an order of the sheet; Draw of what Read returns is the text.
func TestReadOfDraw(t *testing.T) {
	manySheets(40, func(s api.Sheet) {
		text, e := diagram.Draw(s)
		ordered, f := diagram.Sheet(s)
		back, line, g := diagram.Read(text)
		if e != api.OK || f != api.OK || g != api.OK || line != 0 || !equal(back, ordered) {
			t.Fatalf("%v: Read of Draw is %v, %d, %d, and Sheet %v, %d", s, back, line, g, ordered, f)
		}
		if again, e := diagram.Draw(back); e != api.OK || again != text {
			t.Fatalf("%v: %q, and again %q, %d", s, text, again, e)
		}
		rows, _ := diagram.Rows(s)
		if inOrder, e := sheet.Reorder(s, slices.Concat(rows...)); e != api.OK || !equal(inOrder, ordered) {
			t.Fatalf("%v: Reorder to the rows %v is %v, %d, and Sheet %v", s, rows, inOrder, e, ordered)
		}
		if same, e := traces.Same(s, ordered); e != api.OK || !same {
			t.Fatalf("%v: Sheet is %v, another lace", s, ordered)
		}
	})
}

// P14.6: each work of a row but the first one touches one of the row before it; works of one row do not touch.
func TestWorksOfRows(t *testing.T) {
	manySheets(80, func(s api.Sheet) {
		rows, e := diagram.Rows(s)
		if e != api.OK {
			t.Fatalf("Rows of %v: %d", s, e)
		}
		for n, row := range rows {
			for k, i := range row {
				for _, m := range row[:k] {
					if touching(s.Works[i], s.Works[m]) || s.Works[m].At >= s.Works[i].At {
						t.Fatalf("%v: the row %d is %v", s, n, row)
					}
				}
				if n > 0 && !slices.ContainsFunc(rows[n-1], func(m int) bool { return touching(s.Works[i], s.Works[m]) }) {
					t.Fatalf("%v: the work %d does not touch the row before it: %v", s, i, rows)
				}
			}
		}
	})
}

// P14.6: the rows before a row, and then those from it on, are the same lace as the whole.
func TestCutsAreTheWhole(t *testing.T) {
	manySheets(40, func(s api.Sheet) {
		rows, _ := diagram.Rows(s)
		for n := range len(rows) + 1 {
			above, e := diagram.Cut(s, 0, n)
			below, f := diagram.Cut(s, n, len(rows))
			both := api.Sheet{Pairs: above.Pairs, Works: slices.Concat(above.Works, below.Works)}
			if same, g := traces.Same(s, both); e != api.OK || f != api.OK || g != api.OK || !same || below.Pairs != s.Pairs {
				t.Fatalf("%v: the rows before %d are %v, %d, and the others %v, %d", s, n, above, e, below, f)
			}
		}
	})
}

// P14.7: if one more work is appended, each other work stays in its row, and the new one is in the row after the last one with a work that it touches.
func TestOneWorkMore(t *testing.T) {
	met := map[int]int{}
	manySheets(30, func(s api.Sheet) {
		rows, _ := diagram.Rows(s)
		for at := range s.Pairs - 1 {
			w := stitch(at, "C")
			row := 0
			for n, l := range rows {
				if slices.ContainsFunc(l, func(i int) bool { return touching(s.Works[i], w) }) {
					row = n + 1
				}
			}
			met[row]++
			now, e := diagram.Rows(api.Sheet{Pairs: s.Pairs, Works: append(slices.Clone(s.Works), w)})
			if e != api.OK || row >= len(now) || !slices.Contains(now[row], len(s.Works)) {
				t.Fatalf("%v and one more work at %d: %v, %d, and it is not in the row %d", s, at, now, e, row)
			}
			now[row] = slices.DeleteFunc(now[row], func(i int) bool { return i == len(s.Works) })
			if len(now[row]) == 0 {
				now = slices.Delete(now, row, row+1)
			}
			if !slices.EqualFunc(now, rows, slices.Equal) {
				t.Fatalf("%v and one more work at %d: the rows %v of the others become %v", s, at, rows, now)
			}
		}
	})
	for row := range 6 {
		if met[row] < 50 {
			t.Errorf("the rows are %v", met)
		}
	}
}

// The sheet of the diagram has its own works from row to row already, and each part of it is drawn as the rows that it has.
func TestRowsOfSheet(t *testing.T) {
	r := rand.New(rand.NewSource(5))
	for range 200 {
		s := someSheet(r, 2+r.Intn(12), r.Intn(30), 4)
		ordered, _ := diagram.Sheet(s)
		checkSheet(t, ordered, ordered)
		rows, _ := diagram.Rows(s)
		next := 0
		for n, row := range rows {
			part, e := diagram.Cut(ordered, n, n+1)
			if e != api.OK || !slices.Equal(part.Works, ordered.Works[next:next+len(row)]) {
				t.Fatalf("%v: the row %d is %v, %d", ordered, n, part, e)
			}
			checkRows(t, part, [][]int{upTo(len(row))})
			next += len(row)
		}
	}
}

// upTo returns the numbers from 0 to n - 1.
func upTo(n int) []int {
	l := make([]int, n)
	for i := range l {
		l[i] = i
	}
	return l
}
