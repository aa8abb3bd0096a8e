package motifs_test

import (
	"math"
	"math/rand"
	"slices"
	"sync"
	"testing"

	"torchon/api"
	"torchon/motifs"
)

// copied returns a sheet in new memory.
func copied(s api.Sheet) api.Sheet {
	s.Works = slices.Clone(s.Works)
	return s
}

// spoil writes into all the memory of a list, also behind it.
func spoil[T any](l []T, with T) {
	l = l[:cap(l)]
	for i := range l {
		l[i] = with
	}
}

// P9.8 and P1 (R3): what is written into a result changes no other one.
func TestResultsAreNew(t *testing.T) {
	for _, c := range valid() {
		for name, get := range map[string]func() (api.Sheet, api.Errno){
			"alone": func() (api.Sheet, api.Errno) { return direct(c) },
			"Make":  func() (api.Sheet, api.Errno) { return motifs.Make(c.name, c.sizes) },
		} {
			first, e := get()
			want := copied(first)
			second, _ := get()
			spoil(first.Works, api.Work{Kind: -99, At: -99, Word: "spoiled"})
			third, _ := get()
			if e != api.OK || !equal(second, want) || !equal(third, want) {
				t.Errorf("%v, %s: %v, %v and then %v", c, name, want, second, third)
			}
		}
	}
	names, others := motifs.Names(), motifs.Names()
	want := slices.Clone(names)
	spoil(names, "spoiled")
	if !slices.Equal(others, want) || !slices.Equal(motifs.Names(), want) {
		t.Errorf("Names: %v, and then %v", others, motifs.Names())
	}
}

// P9.8 and P1 (R3): sizes are neither changed nor kept.
func TestSizesAreLeft(t *testing.T) {
	for _, c := range append(valid(), call{"fan", []int{13}}, call{"spider", []int{1}}, call{"star", []int{1, 2}}) {
		sizes := append(make([]int, 0, len(c.sizes)+3), c.sizes...)
		behind := sizes[:cap(sizes)]
		before := slices.Clone(behind)
		s, e := motifs.Make(c.name, sizes)
		n, _ := motifs.Width(c.name, sizes)
		if !slices.Equal(behind, before) {
			t.Errorf("%v: the sizes become %v", c, behind)
		}
		want := copied(s)
		spoil(sizes, -99)
		again, err := motifs.Make(c.name, c.sizes)
		if !equal(s, want) || !equal(again, want) || e != err || n != s.Pairs {
			t.Errorf("%v: %v, %d, and then %v, %d", c, want, e, again, err)
		}
	}
}

// P1 (R4): no sizes are nil or empty.
func TestNilAndEmpty(t *testing.T) {
	for _, name := range append(motifs.Names(), "star", "") {
		a, e := motifs.Make(name, nil)
		b, err := motifs.Make(name, []int{})
		m, e1 := motifs.Width(name, nil)
		n, e2 := motifs.Width(name, []int{})
		if !equal(a, b) || e != err || m != n || e1 != e2 || e != e1 {
			t.Errorf("%s: %v, %d and %v, %d; %d, %d and %d, %d", name, a, e, b, err, m, e1, n, e2)
		}
	}
}

// anyCall returns any name and sizes.
func anyCall(r *rand.Rand) call {
	name := []byte(motifs.Names()[r.Intn(6)])
	if r.Intn(8) == 0 {
		name[r.Intn(len(name))] = byte(r.Intn(256))
	}
	var sizes []int
	for range r.Intn(4) {
		numbers := []int{r.Intn(8), r.Intn(30), r.Intn(500), -r.Intn(500), int(r.Uint64()), math.MaxInt, math.MinInt}
		sizes = append(sizes, numbers[r.Intn(len(numbers))])
	}
	return call{string(name), sizes}
}

// P9.8 and P1 (R1, R2): any arguments are accepted, and errors come alone.
func TestAnyArguments(t *testing.T) {
	r := rand.New(rand.NewSource(9))
	seen := map[api.Errno]int{}
	for range 50000 {
		seen[made(t, anyCall(r))]++
	}
	for _, e := range []api.Errno{api.OK, api.ErrNone, api.ErrArg, api.ErrRange, api.ErrLong} {
		if seen[e] < 100 {
			t.Errorf("%d is returned %d times", e, seen[e])
		}
	}
}

// P1 (R6): results depend on the arguments alone, also when many calls run at the same time.
func TestCallsAreIndependent(t *testing.T) {
	given := valid()
	var group sync.WaitGroup
	for k := range 8 {
		group.Go(func() {
			r := rand.New(rand.NewSource(int64(k)))
			for _, i := range r.Perm(len(given)) {
				made(t, given[i])
				made(t, anyCall(r))
			}
		})
	}
	group.Wait()
}
