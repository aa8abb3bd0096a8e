package pattern

import (
	"strings"

	"torchon/api"
	"torchon/words"
)

// farthest is how far from 0 a number in a line may be.
const farthest = 1000000000

// Parse returns the pattern of a text, or the number of the line that is wrong, and the error.
func Parse(text string) (api.Pattern, int, api.Errno) {
	lines, e := words.Lines(text)
	if e != api.OK {
		return api.Pattern{}, 0, e
	}
	if len(lines) == 0 {
		return api.Pattern{}, 1, api.ErrForm
	}
	var r reader
	for i, line := range lines {
		if e := r.read(line); e != api.OK {
			return api.Pattern{}, i + 1, e
		}
	}
	if _, e := Check(r.p); e != api.OK {
		return api.Pattern{}, 0, e
	}
	return r.p, 0, api.OK
}

// A reader reads lines of a text, one after the other; last is the first field of the line before.
type reader struct {
	p    api.Pattern
	last string
}

func (r *reader) read(line string) (e api.Errno) {
	defer func() {
		if fault := recover(); fault != nil {
			e = fault.(api.Errno)
		}
	}()
	fields, e := words.Split(line)
	require(e == api.OK, e)
	c := cursor{fields}
	first := c.field()
	require(mayFollow(first, r.last), api.ErrForm)
	r.take(first, &c)
	require(!c.more(), api.ErrForm)
	r.last = first
	return api.OK
}

// mayFollow returns whether a line with this first field is at its place after one with the field last, which is empty before the first line.
func mayFollow(first, last string) bool {
	switch first {
	case patternLine:
		return last == ""
	case stitchLine:
		return last == patternLine || last == stitchLine
	case unitLine:
		return last == patternLine || last == stitchLine || last == unitLine || last == rowLine
	case rowLine:
		return last == unitLine || last == rowLine
	case groundLine, motifLine, sewLine:
		return last != ""
	}
	return false
}

// take adds what the fields behind the first one say to the pattern. Calls in one expression are made from left to right, in the order of the fields.
func (r *reader) take(first string, c *cursor) {
	p := &r.p
	switch first {
	case patternLine:
		p.Name, p.Pairs = c.field(), c.number()
	case stitchLine:
		p.Stitches = append(p.Stitches, api.PtStitch{Name: c.field(), Word: c.word()})
	case unitLine:
		p.Units = append(p.Units, api.PtUnit{Name: c.field(), Pairs: c.number()})
	case rowLine:
		u := &p.Units[len(p.Units)-1]
		u.Rows = append(u.Rows, r.row(c))
	case groundLine:
		p.Parts = append(p.Parts, api.PtPart{Kind: api.PtGround, Name: c.field(), From: c.number(), Pairs: c.number(), Times: c.number(), Flip: c.flip()})
	case motifLine:
		p.Parts = append(p.Parts, api.PtPart{Kind: api.PtMotif, Name: c.field(), From: c.number(), Pairs: c.number(), Sizes: c.sizes(), Flip: c.flip()})
	case sewLine:
		p.Parts = append(p.Parts, api.PtPart{Kind: api.PtSew, From: c.number(), Pairs: 2})
	}
}

func (r *reader) row(c *cursor) []api.PtCell {
	var row []api.PtCell
	for c.more() {
		name, at, _ := strings.Cut(c.field(), place)
		i := stitchNamed(r.p, name)
		require(i >= 0, api.ErrForm)
		row = append(row, api.PtCell{At: number(at), Stitch: i})
	}
	return row
}

// A cursor takes the fields of a line, one after the other.
type cursor struct{ rest []words.Field }

func (c *cursor) more() bool {
	return len(c.rest) > 0
}

func (c *cursor) field() string {
	require(c.more() && !c.rest[0].Quoted, api.ErrForm)
	text := c.rest[0].S
	c.rest = c.rest[1:]
	return text
}

func (c *cursor) number() int {
	return number(c.field())
}

func (c *cursor) word() string {
	if text := c.field(); text != nothing {
		return text
	}
	return ""
}

func (c *cursor) sizes() []int {
	text := c.field()
	if text == nothing {
		return nil
	}
	// With an error the list is empty, and so is its text, as no field is.
	l, _ := words.ParseList(text)
	shortest, _ := words.List(l)
	require(text == shortest, api.ErrForm)
	return l
}

// flip takes the last field of a part that is flipped.
func (c *cursor) flip() bool {
	if !c.more() {
		return false
	}
	require(c.field() == flipped, api.ErrForm)
	return true
}

func number(text string) int {
	n, e := words.Int(text, -farthest, farthest)
	require(e == api.OK, api.ErrForm)
	return int(n)
}
