package pattern

import (
	"torchon/api"
	"torchon/stitches"
	"torchon/words"
)

// require leaves by a panic with an error if a condition does not hold.
func require(ok bool, e api.Errno) {
	if !ok {
		panic(e)
	}
}

func between(least, n, most int) bool {
	return least <= n && n <= most
}

// A checker goes through a pattern; at is where it is, and works is how many works the parts up to there have.
type checker struct {
	p     api.Pattern
	at    api.PtFault
	works int
}

// Check returns the first fault of a pattern, and its error.
func Check(p api.Pattern) (at api.PtFault, e api.Errno) {
	c := checker{p: p}
	defer func() {
		if fault := recover(); fault != nil {
			at, e = c.at, fault.(api.Errno)
		}
	}()
	c.all()
	c.stitches()
	c.units()
	c.parts()
	return api.PtFault{}, api.OK
}

// goTo goes to a stitch, a unit, a part, or the whole pattern.
func (c *checker) goTo(what, i int) {
	c.at = api.PtFault{What: what, Index: i, Row: -1, Cell: -1}
}

func (c *checker) all() {
	c.goTo(api.PtAll, 0)
	p := c.p
	require(len(p.Stitches) <= api.MaxPtStitches && len(p.Units) <= api.MaxPtUnits && len(p.Parts) <= api.MaxPtParts, api.ErrLong)
	require(words.Name(p.Name), api.ErrForm)
	require(between(2, p.Pairs, api.MaxPairs), api.ErrRange)
}

func (c *checker) stitches() {
	for i, s := range c.p.Stitches {
		c.goTo(api.PtStitches, i)
		require(words.Name(s.Name), api.ErrForm)
		e := stitches.Check(s.Word)
		require(e == api.OK, e)
		require(stitchNamed(c.p, s.Name) == i, api.ErrTwice)
	}
}

func (c *checker) units() {
	for i, u := range c.p.Units {
		c.goTo(api.PtUnits, i)
		require(words.Name(u.Name), api.ErrForm)
		require(between(2, u.Pairs, api.MaxPairs), api.ErrRange)
		require(len(u.Rows) <= api.MaxPtRows, api.ErrLong)
		require(unitNamed(c.p, u.Name) == i, api.ErrTwice)
		c.cells(u)
	}
}

func (c *checker) cells(u api.PtUnit) {
	for i, row := range u.Rows {
		free := 0 // the first pair behind those of the cell before
		for j, cell := range row {
			c.at.Row, c.at.Cell = i, j
			require(between(0, cell.At, u.Pairs-2), api.ErrRange)
			require(cell.At >= free, api.ErrTwice)
			require(between(0, cell.Stitch, len(c.p.Stitches)-1), api.ErrNone)
			free = cell.At + 2
		}
	}
}

func (c *checker) parts() {
	checks := map[int]func(api.PtPart){api.PtGround: c.ground, api.PtMotif: c.motif, api.PtSew: c.sewing}
	for i, x := range c.p.Parts {
		c.goTo(api.PtParts, i)
		check, found := checks[x.Kind]
		require(found, api.ErrArg)
		// From is not added to Pairs, as the sum may be beyond every int.
		require(x.From >= 0 && x.Pairs >= 2 && x.Pairs <= c.p.Pairs-x.From, api.ErrRange)
		check(x)
		c.works += works(c.p, x)
		require(c.works <= api.MaxWorks, api.ErrFull)
	}
}

func (c *checker) ground(x api.PtPart) {
	i := unitNamed(c.p, x.Name)
	require(i >= 0, api.ErrNone)
	require(x.Pairs%c.p.Units[i].Pairs == 0, ErrUnit)
	require(between(1, x.Times, api.MaxPtTimes), api.ErrRange)
	require(len(x.Sizes) == 0, api.ErrArg)
}

func (c *checker) motif(x api.PtPart) {
	require(words.Name(x.Name), api.ErrForm)
	require(x.Times == 0, api.ErrArg)
	require(len(x.Sizes) <= api.MaxPtSizes, api.ErrLong)
	for _, n := range x.Sizes {
		require(between(0, n, api.MaxPtSize), api.ErrRange)
	}
}

func (c *checker) sewing(x api.PtPart) {
	require(x.Pairs == 2 && x.Name == "" && x.Times == 0 && len(x.Sizes) == 0 && !x.Flip, api.ErrArg)
}
