package diagram

import (
	"strings"

	"torchon/api"
	"torchon/words"
)

// Read returns the sheet of the diagram that a text is, or the number of the line that is wrong, and the error.
func Read(text string) (api.Sheet, int, api.Errno) {
	lines, e := words.Lines(text)
	if e != api.OK {
		return api.Sheet{}, 0, e
	}
	s, wrong := drawn(lines)
	if wrong > 0 {
		return api.Sheet{}, wrong, api.ErrForm
	}
	// Draw has an error if there are too many works; there are never too many looks, since each has a letter.
	if again, e := Draw(s); e != api.OK || again != text {
		return api.Sheet{}, 0, api.ErrForm
	}
	return s, 0, api.OK
}

// drawn returns the sheet with the works that lines draw, or the number of the first line that is wrong, which is 0 if there is none.
func drawn(lines []string) (api.Sheet, int) {
	r := reader{works: map[byte]api.Work{}}
	done := 0
	next := func(read func(line string) bool) bool {
		ok := done < len(lines) && read(lines[done])
		if ok {
			done++
		}
		return ok
	}
	ok := next(r.readDiagram)
	for ok && done < len(lines) && strings.HasPrefix(lines[done], letterLine) {
		ok = next(r.readLetter)
	}
	for range r.rows {
		ok = ok && next(r.readRow)
	}
	if !ok || done < len(lines) {
		return api.Sheet{}, done + 1
	}
	return r.sheet, 0
}

// A reader is what the lines say that have been read.
type reader struct {
	sheet api.Sheet
	rows  int
	works map[byte]api.Work // of each letter, in the place 0
}

// readDiagram reads the first line, and returns whether it is right, as the other methods do for theirs.
func (r *reader) readDiagram(line string) bool {
	l := strings.Split(line, blank)
	if len(l) != 3 || l[0] != diagramLine {
		return false
	}
	pairs, e := words.Int(l[1], 2, api.MaxPairs)
	rows, f := words.Int(l[2], 0, api.MaxWorks)
	r.sheet.Pairs, r.rows = int(pairs), int(rows)
	return e == api.OK && f == api.OK
}

func (r *reader) readLetter(line string) bool {
	known := len(r.works)
	l := strings.Split(line, blank)
	if len(l) != 3 || l[0] != letterLine || known == len(alphabet) || l[1] != alphabet[known:known+1] {
		return false
	}
	w, ok := workOf(l[2])
	r.works[alphabet[known]] = w
	return ok
}

func (r *reader) readRow(line string) bool {
	if len(line) != 2*r.sheet.Pairs-1 {
		return false
	}
	place := 0
	// With a blank behind the line, each pair has two bytes of it.
	for rest := line + blank; rest != ""; {
		if after, ok := strings.CutPrefix(rest, free+blank); ok {
			rest, place = after, place+1
			continue
		}
		w, ok := r.firstWork(rest)
		if !ok {
			return false
		}
		w.At = place
		r.sheet.Works = append(r.sheet.Works, w)
		rest, place = rest[4:], place+2
	}
	return true
}

// firstWork returns the work with whose drawing and a blank what is left of a row begins, and whether there is one.
func (r *reader) firstWork(rest string) (api.Work, bool) {
	if len(rest) < 4 || rest[:1] != left || rest[2:4] != right+blank {
		return api.Work{}, false
	}
	w, ok := r.works[rest[1]]
	w.Word = strings.Clone(w.Word)
	return w, ok
}
