package pattern

import (
	"strings"

	"torchon/api"
	"torchon/words"
)

// The first fields of lines.
const (
	patternLine = "pattern"
	stitchLine  = "stitch"
	unitLine    = "unit"
	rowLine     = "row"
	groundLine  = "ground"
	motifLine   = "motif"
	sewLine     = "sew"
)

// What else is in lines.
const (
	nothing = "-" // a word without letters, or no sizes
	flipped = "flip"
	place   = "@" // between the stitch of a cell and its At
)

// Print returns the text of a pattern.
func Print(p api.Pattern) (string, api.Errno) {
	if _, e := Check(p); e != api.OK {
		return "", e
	}
	var text strings.Builder
	line := func(fields ...string) {
		text.WriteString(strings.Join(fields, " ") + "\n")
	}
	line(patternLine, p.Name, digits(p.Pairs))
	for _, s := range p.Stitches {
		line(stitchLine, s.Name, orNothing(s.Word))
	}
	for _, u := range p.Units {
		line(unitLine, u.Name, digits(u.Pairs))
		for _, row := range u.Rows {
			line(rowFields(p, row)...)
		}
	}
	for _, x := range p.Parts {
		line(partFields(x)...)
	}
	return text.String(), api.OK
}

func rowFields(p api.Pattern, row []api.PtCell) []string {
	fields := []string{rowLine}
	for _, c := range row {
		fields = append(fields, p.Stitches[c.Stitch].Name+place+digits(c.At))
	}
	return fields
}

func partFields(x api.PtPart) []string {
	var fields []string
	switch x.Kind {
	case api.PtGround:
		fields = []string{groundLine, x.Name, digits(x.From), digits(x.Pairs), digits(x.Times)}
	case api.PtMotif:
		sizes, _ := words.List(x.Sizes) // they are so few and so small that they are always a list
		fields = []string{motifLine, x.Name, digits(x.From), digits(x.Pairs), orNothing(sizes)}
	case api.PtSew:
		fields = []string{sewLine, digits(x.From)}
	}
	if x.Flip {
		fields = append(fields, flipped)
	}
	return fields
}

func digits(n int) string {
	return words.Digits(int64(n))
}

// orNothing returns the field for a text that may be empty.
func orNothing(text string) string {
	if text == "" {
		return nothing
	}
	return text
}
