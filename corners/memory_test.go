package corners_test

import (
	"math"
	"math/rand"
	"slices"
	"sync"
	"testing"

	"torchon/api"
	"torchon/corners"
)

// A result is what a function returns.
type result struct {
	image  api.GrPoint
	misses []api.CnMiss
	sheet  api.Sheet
	points []api.GrPoint
	e      api.Errno
}

func (r result) equal(s result) bool {
	return r.image == s.image && slices.Equal(r.misses, s.misses) && r.sheet.Pairs == s.sheet.Pairs && slices.Equal(r.sheet.Works, s.sheet.Works) && slices.Equal(r.points, s.points) && r.e == s.e
}

// copied returns a result in new memory.
func (r result) copied() result {
	r.misses, r.sheet.Works, r.points = slices.Clone(r.misses), slices.Clone(r.sheet.Works), slices.Clone(r.points)
	return r
}

// spoil writes into all the memory of a result.
func (r result) spoil() {
	misses, works, points := r.misses[:cap(r.misses)], r.sheet.Works[:cap(r.sheet.Works)], r.points[:cap(r.points)]
	for i := range misses {
		misses[i] = api.CnMiss{Num: -99, Den: -99}
	}
	for i := range works {
		works[i] = api.Work{Kind: -99, At: -99, Word: "spoiled"}
	}
	for i := range points {
		points[i] = pt(-99, -99)
	}
}

var functions = []string{"Check", "Image", "Fits", "Turn"}

// run calls a function; p is for Image alone.
func run(name string, c api.CnCorner, p api.GrPoint) (r result) {
	switch name {
	case "Check":
		r.e = corners.Check(c)
	case "Image":
		r.image, r.e = corners.Image(c, p)
	case "Fits":
		r.misses, r.e = corners.Fits(c)
	case "Turn":
		r.sheet, r.points, r.e = corners.Turn(c)
	}
	return r
}

// P11.8 and P1 (R3): arguments are not modified, and results are new memory: what is written into one of them changes neither an argument nor another result.
func TestMemory(t *testing.T) {
	for _, c := range []api.CnCorner{example(), exchanged(example()), mirrored(slant()), slant(), with(slant(), func(c *api.CnCorner) { c.Y = 5 })} {
		// The nodes have room behind them.
		c.Ground.Nodes = append(make([]api.GdNode, 0, 20), c.Ground.Nodes...)
		room := c.Ground.Nodes[:20]
		nodes := slices.Clone(room)
		stays := func(name string) {
			t.Helper()
			if !slices.Equal(room, nodes) {
				t.Errorf("%s: the nodes become %v", name, room)
			}
		}
		for _, name := range functions {
			first := run(name, c, pt(1, 2))
			want := first.copied()
			second := run(name, c, pt(1, 2))
			stays(name)
			first.spoil()
			stays(name)
			if third := run(name, c, pt(1, 2)); !second.equal(want) || !third.equal(want) {
				t.Errorf("%s: %v, %v and then %v", name, want, second, third)
			}
			// What is written into the arguments changes no result.
			room[0].Word, room[0].Out[0].DY = "CLRT", 7
			if !second.equal(want) {
				t.Errorf("%s: %v becomes %v", name, want, second)
			}
			room[0] = nodes[0]
		}
	}
}

// P1 (R4): nil and empty lists of nodes mean the same.
func TestNilAndEmpty(t *testing.T) {
	for _, nodes := range [][]api.GdNode{nil, {}} {
		for _, name := range functions {
			c := example()
			c.Ground.Nodes = nodes
			if r := run(name, c, pt(0, 0)); !r.equal(result{e: api.ErrArg}) {
				t.Errorf("%s without nodes: %v", name, r)
			}
		}
	}
}

// wild returns a number that is often at or beyond a limit.
func wild(r *rand.Rand, limit int) int {
	some := []int{0, 1, 2, 3, -1, 5, limit - 1, limit, limit + 1, -limit, -limit - 1, 1 << 31, math.MaxInt, math.MinInt}
	return some[min(r.Intn(len(some)), r.Intn(len(some)))]
}

// P11.8 and P1 (R1, R2): any arguments are accepted; errors come alone, and are those that the functions have.
func TestAnyArguments(t *testing.T) {
	r := rand.New(rand.NewSource(7))
	own := map[string][]api.Errno{"Image": {api.ErrRange}, "Turn": {api.ErrForm, api.ErrLong}}
	met := map[string]map[api.Errno]int{}
	for _, name := range functions {
		met[name] = map[api.Errno]int{}
	}
	for range 1500 {
		g, twice := goodGround(r)
		c := someCorner(r, g, twice)
		numbers := []*int{&c.X, &c.W, &c.Y, &c.Last, &c.D, &c.A}
		for range r.Intn(4) {
			*numbers[r.Intn(len(numbers))] = wild(r, 1000)
		}
		if r.Intn(5) == 0 {
			n := &g.Nodes[r.Intn(len(g.Nodes))]
			numbers = []*int{&c.Ground.W, &c.Ground.H, &c.Ground.Shift, &n.X, &n.Y, &n.Out[0].DX, &n.Out[0].DY, &n.Out[1].DX, &n.Out[1].DY}
			*numbers[r.Intn(len(numbers))] = wild(r, 8)
		}
		check := corners.Check(c)
		for _, name := range functions {
			got := run(name, c, pt(int64(wild(r, 10000)), int64(wild(r, 10000))))
			met[name][got.e]++
			if got.e != api.OK && !got.equal(result{e: got.e}) || check != api.OK && got.e != check || check == api.OK && got.e != api.OK && !slices.Contains(own[name], got.e) {
				t.Fatalf("%s of %v: %v, and Check returns %d", name, c, got, check)
			}
		}
	}
	for _, name := range functions {
		for _, e := range []api.Errno{api.OK, api.ErrNone, api.ErrForm, api.ErrRange} {
			if met[name][e] < 50 {
				t.Errorf("%s: the error %d was met %d times", name, e, met[name][e])
			}
		}
	}
}

// P1 (R8): A has a meaning for a turned second leg alone, and the other numbers have one in each corner.
func TestNumbersHaveAMeaning(t *testing.T) {
	for _, c := range []api.CnCorner{with(example(), func(c *api.CnCorner) { c.W = 3 }), mirrored(example())} {
		want := run("Turn", c, pt(0, 0))
		for name, change := range map[string]func(c *api.CnCorner){
			"X":    func(c *api.CnCorner) { c.X++ },
			"W":    func(c *api.CnCorner) { c.W++ },
			"Y":    func(c *api.CnCorner) { c.Y-- },
			"Last": func(c *api.CnCorner) { c.Last++ },
			"D":    func(c *api.CnCorner) { c.D += 2 },
			"A":    func(c *api.CnCorner) { c.A += 2 },
			"Left": func(c *api.CnCorner) { c.Left = true },
			"word": func(c *api.CnCorner) { c.Ground.Nodes[0].Word = "CT" },
		} {
			if got := run("Turn", with(c, change), pt(0, 0)); got.equal(want) {
				t.Errorf("%v with another %s: %v", c, name, got)
			}
		}
	}
}

// P1 (R6): results depend on the arguments alone, also when many calls run at the same time.
func TestCallsAreIndependent(t *testing.T) {
	given := []api.CnCorner{example(), mirrored(slant())}
	manyCorners(t, 8, 5, func(c api.CnCorner, _ judgement) { given = append(given, c) })
	look := func() []result {
		var l []result
		for _, c := range given {
			for _, name := range functions {
				l = append(l, run(name, c, pt(3, 4)))
			}
		}
		return l
	}
	want := look()
	var group sync.WaitGroup
	for range 8 {
		group.Go(func() {
			for range 5 {
				if got := look(); !slices.EqualFunc(got, want, result.equal) {
					t.Errorf("%v, then %v", want, got)
				}
			}
		})
	}
	group.Wait()
}
