package grids_test

import (
	"math"
	"math/rand"
	"slices"
	"sync"
	"testing"

	"torchon/api"
	"torchon/grids"
)

// A call is what all functions are given.
type call struct {
	l          api.GrLattice
	o, p, q, s api.GrPoint
	m, n       api.GrMove
}

// A result is what a function returns.
type result struct {
	number  int64
	is      bool
	point   api.GrPoint
	move    api.GrMove
	lattice api.GrLattice
	group   []api.GrMatrix
	e       api.Errno
}

func (r result) equal(s result) bool {
	return r.number == s.number && r.is == s.is && r.point == s.point && r.move == s.move && r.lattice == s.lattice && slices.Equal(r.group, s.group) && r.e == s.e
}

// zero reports whether there is nothing but an error.
func (r result) zero() bool { return len(r.group) == 0 && r.equal(result{e: r.e}) }

var names = []string{"Check", "Square", "Dot", "Side", "Turn", "Group", "Keeps", "Apply", "Compose", "Invert", "Order", "Reduce"}

// run calls a function.
func (c call) run(name string) (r result) {
	var k int
	switch name {
	case "Check":
		r.e = grids.Check(c.l)
	case "Square":
		r.number, r.e = grids.Square(c.l, c.p, c.q)
	case "Dot":
		r.number, r.e = grids.Dot(c.l, c.o, c.p, c.q)
	case "Side":
		k, r.e = grids.Side(c.o, c.p, c.q)
	case "Turn":
		k, r.e = grids.Turn(c.o, c.s, c.p, c.q)
	case "Group":
		r.group, r.e = grids.Group(c.l)
	case "Keeps":
		r.is, r.e = grids.Keeps(c.l, c.m.M)
	case "Apply":
		r.point, r.e = grids.Apply(c.m, c.p)
	case "Compose":
		r.move, r.e = grids.Compose(c.m, c.n)
	case "Invert":
		r.move, r.e = grids.Invert(c.m)
	case "Order":
		k, r.e = grids.Order(c.m.M)
	case "Reduce":
		r.lattice, r.move.M, r.e = grids.Reduce(c.l)
	}
	r.number += int64(k)
	return r
}

func validLattice(l api.GrLattice) bool {
	return l.A >= 1 && l.A <= 10000 && l.C >= 1 && l.C <= 10000 && l.B >= -10000 && l.B <= 10000 && l.A*l.C-l.B*l.B >= 1
}

// invalid reports whether a function is given a lattice, point, matrix or move that is not valid.
func (c call) invalid(name string) bool {
	switch name {
	case "Check", "Group", "Reduce":
		return !validLattice(c.l)
	case "Square":
		return !validLattice(c.l) || !validPoint(c.p) || !validPoint(c.q)
	case "Dot":
		return !validLattice(c.l) || !validPoint(c.o) || !validPoint(c.p) || !validPoint(c.q)
	case "Side":
		return !validPoint(c.o) || !validPoint(c.p) || !validPoint(c.q)
	case "Turn":
		return !validPoint(c.o) || !validPoint(c.s) || !validPoint(c.p) || !validPoint(c.q)
	case "Keeps":
		return !validLattice(c.l) || !validMatrix(c.m.M)
	case "Apply":
		return !validMove(c.m) || !validPoint(c.p)
	case "Compose":
		return !validMove(c.m) || !validMove(c.n)
	case "Invert":
		return !validMove(c.m)
	}
	return !validMatrix(c.m.M)
}

// numbers returns all numbers of a call, each with a number that is just not valid in its place.
func (c *call) numbers() map[*int64]int64 {
	all := map[*int64]int64{&c.l.A: 10001, &c.l.B: 10001, &c.l.C: 10001}
	for _, p := range []*api.GrPoint{&c.o, &c.p, &c.q, &c.s, &c.m.T, &c.n.T} {
		all[&p.X], all[&p.Y] = 1000001, 1000001
	}
	for _, m := range []*api.GrMatrix{&c.m.M, &c.n.M} {
		all[&m.A], all[&m.B], all[&m.C], all[&m.D] = 10001, 10001, 10001, 10001
	}
	return all
}

func usual() call {
	return call{l: lat(2, 1, 3), o: pt(1, 2), p: pt(3, 5), q: pt(-4, 8), s: pt(9, -7), m: move(mat(2, 3, 1, 2), pt(4, 5)), n: move(mat(1, 2, 0, 1), pt(-6, 7))}
}

// P6.1 to P6.6: each function returns ErrArg, and nothing else, if any number that it is given is beyond its limits; those that it is not given do not matter.
func TestInvalidArguments(t *testing.T) {
	for _, name := range names {
		c := usual()
		if r := c.run(name); r.e != api.OK || c.invalid(name) {
			t.Fatalf("%s of %v: %v", name, c, r)
		}
		for place, beyond := range c.numbers() {
			old := *place
			for _, n := range []int64{beyond, -beyond, 1 << 32, math.MaxInt64, math.MinInt64} {
				*place = n
				want := api.OK
				if c.invalid(name) {
					want = api.ErrArg
				}
				if r := c.run(name); r.e != want || want != api.OK && !r.zero() {
					t.Errorf("%s of %v: %v, want the error %d", name, c, r, want)
				}
			}
			*place = old
		}
	}
}

// P6.4 and P1 (R2): an argument that is not valid is met before a move that is not there, or is too far away.
func TestSeveralErrors(t *testing.T) {
	c := usual()
	c.m = move(mat(10000, 0, 0, 2), pt(1000000, 0))
	c.n = c.m
	c.p = pt(1000000, 0)
	for name, want := range map[string]api.Errno{"Apply": api.ErrRange, "Compose": api.ErrRange, "Invert": api.ErrForm} {
		if r := c.run(name); r.e != want || !r.zero() {
			t.Errorf("%s of %v: %v, want the error %d", name, c, r, want)
		}
		for place, beyond := range c.numbers() {
			old := *place
			*place = beyond
			if r := c.run(name); (r.e == api.ErrArg) != c.invalid(name) || !r.zero() {
				t.Errorf("%s of %v: %v", name, c, r)
			}
			*place = old
		}
	}
}

// P6.9 and P1 (R1): any arguments are accepted, and the errors are those that the functions have.
func TestAnyArguments(t *testing.T) {
	own := map[string][]api.Errno{"Turn": {api.ErrArg}, "Apply": {api.ErrRange}, "Compose": {api.ErrRange}, "Invert": {api.ErrForm, api.ErrRange}}
	some := []int64{0, 1, -1, 2, 3, 10000, -10000, 9999, 10001, -10001, 1000000, -1000000, 1000001, -1000001, 1 << 31, 1 << 32, math.MaxInt64, math.MinInt64}
	r := rand.New(rand.NewSource(12))
	var met [8]int
	for range 100000 {
		var c call
		kinds := 3 + r.Intn(len(some)-2)
		for place := range c.numbers() {
			*place = some[min(r.Intn(kinds), r.Intn(kinds))]
		}
		for _, name := range names {
			got := c.run(name)
			met[got.e]++
			switch {
			case got.e != api.OK && !got.zero():
				t.Fatalf("%s of %v: %v", name, c, got)
			case c.invalid(name) && got.e != api.ErrArg:
				t.Fatalf("%s of %v: %v", name, c, got)
			case !c.invalid(name) && got.e != api.OK && !slices.Contains(own[name], got.e):
				t.Fatalf("%s of %v: %v", name, c, got)
			case name == "Turn" && !c.invalid(name) && (got.e == api.ErrArg) != (c.s == c.o || c.p == c.o || c.q == c.o):
				t.Fatalf("%s of %v: %v", name, c, got)
			}
		}
	}
	for _, e := range []api.Errno{api.OK, api.ErrArg, api.ErrForm, api.ErrRange} {
		if met[e] < 100 {
			t.Errorf("the error %d was met %d times", e, met[e])
		}
	}
}

// P6.9 and P1 (R3): what is written into a group changes no later one.
func TestGroupIsNewMemory(t *testing.T) {
	for _, l := range []api.GrLattice{lat(1, 0, 1), lat(2, 1, 2), lat(5, 7, 10)} {
		first, e := grids.Group(l)
		want := slices.Clone(first)
		second, _ := grids.Group(l)
		first = first[:cap(first)]
		for i := range first {
			first[i] = mat(-99, -99, -99, -99)
		}
		third, f := grids.Group(l)
		if e != api.OK || f != api.OK || !slices.Equal(second, want) || !slices.Equal(third, want) {
			t.Errorf("Group of %v: %v, %v and then %v", l, want, second, third)
		}
	}
}

// P1 (R6): results depend on the arguments alone, also when many calls run at the same time.
func TestCallsAreIndependent(t *testing.T) {
	r := rand.New(rand.NewSource(13))
	var calls []call
	for range 20 {
		calls = append(calls, call{l: someLattice(r, api.MaxGram), o: somePoint(r, 100), p: somePoint(r, 100), q: somePoint(r, 100), s: somePoint(r, 100), m: someMove(r), n: someMove(r)})
	}
	look := func() []result {
		var all []result
		for _, c := range calls {
			for _, name := range names {
				all = append(all, c.run(name))
			}
		}
		return all
	}
	want := look()
	var group sync.WaitGroup
	for range 8 {
		group.Go(func() {
			for range 10 {
				if got := look(); !slices.EqualFunc(got, want, result.equal) {
					t.Errorf("%v, then %v", want, got)
				}
			}
		})
	}
	group.Wait()
}
