package braids_test

import (
	"math/rand"
	"slices"
	"strconv"
	"testing"

	"torchon/api"
	"torchon/braids"
)

// free returns the product of words of a free group, whose letters are numbers and their opposites: neighbours that are inverse to each other are taken out.
func free(words ...[]int) []int {
	var out []int
	for _, w := range words {
		for _, x := range w {
			if last := len(out) - 1; last >= 0 && out[last] == -x {
				out = out[:last]
			} else {
				out = append(out, x)
			}
		}
	}
	return out
}

// undone returns the inverse of a word of a free group.
func undone(w []int) []int {
	var out []int
	for _, x := range slices.Backward(w) {
		out = append(out, -x)
	}
	return out
}

// act returns what becomes of the n letters, by P2.8, as text.
func act(n int, w []int) string {
	g := make([][]int, n+1)
	for i := range g {
		g[i] = []int{i}
	}
	for _, letter := range w {
		i := magnitude(letter)
		if letter > 0 {
			g[i], g[i+1] = free(g[i], g[i+1], undone(g[i])), g[i]
		} else {
			g[i], g[i+1] = g[i+1], free(undone(g[i+1]), g[i], g[i+1])
		}
	}
	return textOf(g[1:])
}

func textOf(l [][]int) string {
	text := ""
	for _, w := range l {
		for _, x := range w {
			text += strconv.Itoa(x) + " "
		}
		text += "/"
	}
	return text
}

// P2.8: words have the same normal form exactly if they act in the same way.
func TestNormalFormsByAction(t *testing.T) {
	for _, c := range []struct{ n, most int }{{1, 0}, {2, 9}, {3, 7}, {4, 5}, {5, 4}} {
		byForm, byAction := map[string]string{}, map[string]string{}
		everyWord(c.n, c.most, func(w []int) {
			power, factors := normal(t, c.n, w)
			form, action := strconv.Itoa(power)+":"+textOf(factors), act(c.n, w)
			if other, ok := byForm[form]; ok && other != action {
				t.Fatalf("%d strands, %v: another word with the normal form %s acts in another way", c.n, w, form)
			}
			if other, ok := byAction[action]; ok && other != form {
				t.Fatalf("%d strands, %v: another word that acts in the same way has the normal form %s, not %s", c.n, w, other, form)
			}
			byForm[form], byAction[action] = action, form
		})
	}
}

// P2.7, P2.8: Same of any two short words.
func TestSameByAction(t *testing.T) {
	for _, c := range []struct{ n, most int }{{2, 4}, {3, 3}, {4, 2}} {
		everyWord(c.n, c.most, func(a []int) {
			everyWord(c.n, c.most, func(b []int) {
				if got, want := same(t, c.n, a, b), act(c.n, a) == act(c.n, b); got != want {
					t.Fatalf("Same(%d, %v, %v) = %v", c.n, a, b, got)
				}
			})
		})
	}
	r := rand.New(rand.NewSource(4))
	alike := 0
	for range 3000 {
		n := 3 + r.Intn(3)
		a := someWord(r, n, 10)
		b := changed(r, n, a, 20)
		if r.Intn(2) == 0 {
			b = slices.Insert(b, r.Intn(len(b)+1), someWord(r, n, 2)...)
		}
		if len(b) > 24 {
			continue
		}
		want := act(n, a) == act(n, b)
		if got := same(t, n, a, b); got != want {
			t.Fatalf("Same(%d, %v, %v) = %v", n, a, b, got)
		}
		if want {
			alike++
		}
	}
	if alike < 500 {
		t.Errorf("only %d pairs of words were the same braid", alike)
	}
}

// change makes one of the changes of the definition at some place, if it can be made there.
func change(r *rand.Rand, n int, w []int) []int {
	w = slices.Clone(w)
	at := r.Intn(len(w) + 1)
	rest := w[at:]
	switch r.Intn(4) {
	case 0:
		if n > 1 && len(w) <= 398 {
			letter := letters(n)[r.Intn(2*n-2)]
			return slices.Insert(w, at, letter, -letter)
		}
	case 1:
		if len(rest) > 1 && rest[0] == -rest[1] {
			return slices.Delete(w, at, at+2)
		}
	case 2:
		if len(rest) > 1 && magnitude(magnitude(rest[0])-magnitude(rest[1])) > 1 {
			rest[0], rest[1] = rest[1], rest[0]
		}
	case 3:
		if len(rest) > 2 && rest[0] > 0 && rest[1] > 0 && rest[0] == rest[2] && magnitude(rest[0]-rest[1]) == 1 {
			rest[0], rest[1], rest[2] = rest[1], rest[0], rest[1]
		}
	}
	return w
}

// changed makes many changes.
func changed(r *rand.Rand, n int, w []int, times int) []int {
	for range times {
		w = change(r, n, w)
	}
	return w
}

// signs returns the sum of all letters' signs.
func signs(w []int) int {
	sum := 0
	for _, letter := range w {
		sum += signOf(letter)
	}
	return sum
}

// P2.9, P2.10: changes leave the normal form, the ends, the links and the sum of the signs the same; so does Reduce.
func TestChanges(t *testing.T) {
	r := rand.New(rand.NewSource(5))
	for range 150 {
		n := 1 + r.Intn(12)
		a := someWord(r, n, r.Intn(201))
		b := changed(r, n, a, 1000)
		reduced, e := braids.Reduce(n, b)
		for _, other := range [][]int{b, reduced} {
			p, _ := braids.Perm(n, a)
			q, _ := braids.Perm(n, other)
			k, _ := braids.Links(n, a)
			l, _ := braids.Links(n, other)
			if e != api.OK || !same(t, n, a, other) || !slices.Equal(p, q) || textOf(k) != textOf(l) || signs(a) != signs(other) {
				t.Fatalf("%d strands: %v and %v: not the same", n, a, other)
			}
		}
	}
}

// P2.9: braids that have many letters 1 2 1, which changes find.
func TestChangesOfDeltas(t *testing.T) {
	r := rand.New(rand.NewSource(6))
	for n := 3; n <= 12; n++ {
		delta, _ := braids.Word(n, 1, nil)
		a := join(delta, someWord(r, n, 30), delta, many(1, 3), delta)
		if b := changed(r, n, a, 5000); !same(t, n, a, b) {
			t.Fatalf("%d strands: %v and %v", n, a, b)
		}
	}
}

// P2.10: Times with Inverse is trivial, on both sides.
func TestTimesInverse(t *testing.T) {
	eachWord(func(n int, w []int) {
		w = w[:min(len(w), 200)]
		back, _ := braids.Inverse(n, w)
		for _, l := range [][2][]int{{w, back}, {back, w}} {
			product, e := braids.Times(n, l[0], l[1])
			if is, f := braids.Trivial(n, product); !is || e != api.OK || f != api.OK {
				t.Fatalf("Times(%d, %v, %v) = %v is not trivial", n, l[0], l[1], product)
			}
		}
	})
}

// P2.10: Drop of Lay is the same braid as Drop.
func TestDropOfLay(t *testing.T) {
	eachWord(func(n int, w []int) {
		w = w[:min(len(w), 120)]
		for strand := 0; n > 1 && strand < n; strand++ {
			for _, above := range []bool{true, false} {
				laid, e := braids.Lay(n, w, strand, above)
				a, f := braids.Drop(n, laid, strand)
				b, _ := braids.Drop(n, w, strand)
				if e != api.OK || f != api.OK || !same(t, n-1, a, b) {
					t.Fatalf("Drop of Lay(%d, %v, %d, %v) = %v, %v", n, w, strand, above, a, b)
				}
			}
		}
	})
}

// turned returns the word with n - i in the place of each number i.
func turned(n int, w []int) []int {
	var out []int
	for _, letter := range w {
		out = append(out, signOf(letter)*(n-magnitude(letter)))
	}
	return out
}

// P2.11: delta and then a word is the word turned, and then delta.
func TestDeltaTurns(t *testing.T) {
	eachWord(func(n int, w []int) {
		w = w[:min(len(w), 334)]
		delta, _ := braids.Word(n, 1, nil)
		if !same(t, n, join(delta, w), join(turned(n, w), delta)) {
			t.Fatalf("%d strands, %v", n, w)
		}
	})
}

// mirrored returns the word with all signs changed, and backwards the word that is read backwards.
func mirrored(w []int) []int {
	out := slices.Clone(w)
	for i := range out {
		out[i] = -out[i]
	}
	return out
}

func backwards(w []int) []int {
	out := slices.Clone(w)
	slices.Reverse(out)
	return out
}

// P2.11: changed signs, or reading backwards, leave what is the same.
func TestMirrors(t *testing.T) {
	r := rand.New(rand.NewSource(7))
	seen := map[bool]int{}
	for range 1500 {
		n := 2 + r.Intn(5)
		a := someWord(r, n, r.Intn(12))
		b := changed(r, n, a, 200)
		if r.Intn(2) == 0 && len(b) > 0 {
			b[r.Intn(len(b))] *= -1
		}
		want := same(t, n, a, b)
		seen[want]++
		if same(t, n, mirrored(a), mirrored(b)) != want || same(t, n, backwards(a), backwards(b)) != want {
			t.Fatalf("%d strands: %v and %v", n, a, b)
		}
	}
	if seen[true] < 300 || seen[false] < 300 {
		t.Errorf("same or not: %v", seen)
	}
}
