package words_test

import (
	"slices"
	"strings"
	"sync"
	"testing"
	"unsafe"

	"torchon/api"
	"torchon/words"
)

// share reports whether two strings have memory in common.
func share(a, b string) bool {
	if a == "" || b == "" {
		return false
	}
	p, q := uintptr(unsafe.Pointer(unsafe.StringData(a))), uintptr(unsafe.Pointer(unsafe.StringData(b)))
	return p < q+uintptr(len(b)) && q < p+uintptr(len(a))
}

// own returns a string with memory of its own.
func own(s string) string { return strings.Clone(s) }

// checkNew checks that results share memory neither with the argument nor with each other.
func checkNew(t *testing.T, what, argument string, results []string) {
	for i, s := range results {
		if share(s, argument) {
			t.Errorf("%s: the result %d shares memory with the argument", what, i)
		}
		for j := range i {
			if share(s, results[j]) {
				t.Errorf("%s: the results %d and %d share memory", what, j, i)
			}
		}
	}
}

func textsOf(l []words.Field) []string {
	var texts []string
	for _, f := range l {
		texts = append(texts, f.S)
	}
	return texts
}

// P1.8: results that are strings are new memory.
func TestStringsAreNew(t *testing.T) {
	line := own(`row "cloth stitch" "a ""b""" 123`)
	l, _ := words.Split(line)
	checkNew(t, "Split", line, textsOf(l))
	for _, l := range [][]words.Field{{bare(own("field"))}, {bare(own("field")), quoted(own("a field"))}, {quoted(own("b"))}} {
		s, _ := words.Join(l)
		for _, f := range l {
			checkNew(t, "Join", f.S, []string{s})
		}
	}
	text := own("first\nsecond\n\nthird line\n")
	parts, _ := words.Lines(text)
	checkNew(t, "Lines", text, parts)
	single := own("single\n")
	parts, _ = words.Lines(single)
	checkNew(t, "Lines", single, parts)
	for _, q := range []string{own(`"plain"`), own(`"a ""b"""`)} {
		s, _ := words.Unquote(q)
		again, _ := words.Unquote(q)
		checkNew(t, "Unquote", q, []string{s, again})
		back, _ := words.Quote(s)
		checkNew(t, "Quote", s, []string{back})
	}
}

// P1.8: arguments are not modified.
func TestArgumentsStay(t *testing.T) {
	l := []int{3, 3, 3, 1, 2, 9999, 0}
	before := slices.Clone(l)
	words.List(l)
	words.List(l[:4])
	if !slices.Equal(l, before) {
		t.Errorf("List has changed its argument: %v", l)
	}
	fields := []words.Field{bare("a"), quoted(`b "c"`), bare("d")}
	kept := slices.Clone(fields)
	words.Join(fields)
	words.Join(fields[:1])
	if !slices.Equal(fields, kept) {
		t.Errorf("Join has changed its argument: %v", fields)
	}
}

// P1.8: results that are changed change no later results.
func TestSlicesAreNew(t *testing.T) {
	for range 2 {
		l, e := words.ParseList("1-3,7")
		if !slices.Equal(l, []int{1, 2, 3, 7}) || e != api.OK {
			t.Fatalf("ParseList: %v, %d", l, e)
		}
		clear(l[:cap(l)])
		f, e := words.Split("a \"b c\"")
		if !slices.Equal(f, []words.Field{bare("a"), quoted("b c")}) || e != api.OK {
			t.Fatalf("Split: %v, %d", f, e)
		}
		clear(f[:cap(f)])
		s, e := words.Lines("a\nb\n")
		if !slices.Equal(s, []string{"a", "b"}) || e != api.OK {
			t.Fatalf("Lines: %v, %d", s, e)
		}
		clear(s[:cap(s)])
	}
}

// strange are arguments that are likely to be forgotten.
func strange() []string {
	l := append(everyByte(), "", "\"\"", "\"a", "\xff\xfe", "\xe2\x82", "日本", "-", "x", "1-", "2x", ",", strings.Repeat("\x00", 3000), strings.Repeat("\"", 9999), strings.Repeat("-", 100), strings.Repeat("9", 9999), strings.Repeat(" ", 4096))
	return append(l, strings.Repeat("\n", 1<<20), strings.Repeat("\"a\" ", 1<<18))
}

// P1.8, R1 and R2: any arguments are accepted, and with an error every other result is zero.
func TestAnyArguments(t *testing.T) {
	for _, s := range strange() {
		words.Name(s)
		words.Text(s)
		for _, ends := range [][2]int64{{-1 << 63, 1<<63 - 1}, {1<<63 - 1, -1 << 63}, {0, 0}} {
			if n, e := words.Int(s, ends[0], ends[1]); e != api.OK && n != 0 {
				t.Errorf("Int(%.20q): %d, %d", s, n, e)
			}
		}
		if l, e := words.ParseList(s); e != api.OK && len(l) != 0 {
			t.Errorf("ParseList(%.20q): %v, %d", s, l, e)
		}
		if q, e := words.Quote(s); e != api.OK && q != "" {
			t.Errorf("Quote(%.20q): %q, %d", s, q, e)
		}
		if u, e := words.Unquote(s); e != api.OK && u != "" {
			t.Errorf("Unquote(%.20q): %q, %d", s, u, e)
		}
		if l, e := words.Split(s); e != api.OK && len(l) != 0 {
			t.Errorf("Split(%.20q): %v, %d", s, l, e)
		}
		if line, e := words.Join([]words.Field{bare(s), quoted(s)}); e != api.OK && line != "" {
			t.Errorf("Join(%.20q): %q, %d", s, line, e)
		}
		if l, e := words.Lines(s); e != api.OK && len(l) != 0 {
			t.Errorf("Lines(%.20q): %d lines, %d", s, len(l), e)
		}
	}
}

// R4: nil and empty lists mean the same.
func TestNilAndEmpty(t *testing.T) {
	for _, l := range [][]int{nil, {}} {
		if s, e := words.List(l); s != "" || e != api.OK {
			t.Errorf("List of nothing: %q, %d", s, e)
		}
	}
	for _, l := range [][]words.Field{nil, {}} {
		if s, e := words.Join(l); s != "" || e != api.OK {
			t.Errorf("Join of nothing: %q, %d", s, e)
		}
	}
	if l, e := words.ParseList(""); len(l) != 0 || e != api.OK {
		t.Errorf("ParseList of nothing: %v, %d", l, e)
	}
	if l, e := words.Split(""); len(l) != 0 || e != api.OK {
		t.Errorf("Split of nothing: %v, %d", l, e)
	}
	if l, e := words.Lines(""); len(l) != 0 || e != api.OK {
		t.Errorf("Lines of nothing: %v, %d", l, e)
	}
}

// R6: results depend on the arguments alone, whatever was called before, or is called at the same time.
func TestResultsDependOnArgumentsAlone(t *testing.T) {
	var calls sync.WaitGroup
	for range 8 {
		calls.Go(func() {
			for range 200 {
				if s, e := words.List([]int{1, 2, 3, 7}); s != "1-3,7" || e != api.OK {
					t.Errorf("List: %q, %d", s, e)
				}
				if s, e := words.List([]int{10000}); s != "" || e != api.ErrRange {
					t.Errorf("List of 10000: %q, %d", s, e)
				}
				if l, e := words.Split(`a "b c`); len(l) != 0 || e != api.ErrForm {
					t.Errorf("Split: %v, %d", l, e)
				}
				if l, e := words.Split(`a "b c"`); len(l) != 2 || l[1] != quoted("b c") || e != api.OK {
					t.Errorf("Split: %v, %d", l, e)
				}
				if s := words.Digits(-907); s != "-907" {
					t.Errorf("Digits: %q", s)
				}
			}
		})
	}
	calls.Wait()
}
