package words_test

import (
	"math/rand/v2"
	"regexp"
	"slices"
	"strings"
	"testing"

	"torchon/api"
	"torchon/words"
)

func bare(s string) words.Field   { return words.Field{S: s} }
func quoted(s string) words.Field { return words.Field{Quoted: true, S: s} }

// P1.4: quotations of strings, and back.
func TestQuotations(t *testing.T) {
	for q, s := range map[string]string{
		`""`:                                  ``,
		`"a"`:                                 `a`,
		`" "`:                                 ` `,
		`"say ""a"""`:                         `say "a"`,
		`""""`:                                `"`,
		`""""""`:                              `""`,
		`"a""b"`:                              `a"b`,
		`"\"`:                                 `\`,
		`"cloth stitch ~"`:                    `cloth stitch ~`,
		`"` + strings.Repeat("x", 200) + `"`:  strings.Repeat("x", 200),
		`"` + strings.Repeat(`""`, 200) + `"`: strings.Repeat(`"`, 200),
	} {
		if got, e := words.Quote(s); got != q || e != api.OK {
			t.Errorf("Quote(%q): %q, %d", s, got, e)
		}
		if got, e := words.Unquote(q); got != s || e != api.OK {
			t.Errorf("Unquote(%q): %q, %d", q, got, e)
		}
	}
}

// P1.4: what is no string has no quotation.
func TestQuoteErrors(t *testing.T) {
	for _, s := range []string{"\n", "a\x1f", "\x7f", "é", "\xff", strings.Repeat("x", 201), strings.Repeat(`"`, 201)} {
		if got, e := words.Quote(s); got != "" || e != api.ErrArg {
			t.Errorf("Quote(%q): %q, %d", s, got, e)
		}
	}
	for b, s := range everyByte() {
		if _, e := words.Quote(s); (e == api.OK) != (32 <= b && b <= 126) {
			t.Errorf("Quote of the byte %d: %d", b, e)
		}
	}
}

// P1.4: what is no quotation of a string.
func TestUnquoteErrors(t *testing.T) {
	for _, q := range []string{
		"", `"`, `"a`, `a"`, `a`, `aa`, `"""`, `"""""`, `"a"b"`, `"a"b`, `a"b"`, ` "a"`, `"a" `, `"a"""b"`, `'a'`,
		"\"\n\"", "\"\x7f\"", "\"é\"", `"` + strings.Repeat("x", 201) + `"`, `"` + strings.Repeat(`""`, 201) + `"`, strings.Repeat(`"`, 403),
	} {
		if got, e := words.Unquote(q); got != "" || e != api.ErrForm {
			t.Errorf("Unquote(%q): %q, %d", q, got, e)
		}
	}
	for b, s := range everyByte() {
		if _, e := words.Unquote(`"` + s + `"`); (e == api.OK) != (32 <= b && b <= 126 && b != 34) {
			t.Errorf("Unquote of the quoted byte %d: %d", b, e)
		}
	}
}

// P1.5 and the chapter's examples: lines and their fields, in both directions.
func TestLinesOfFields(t *testing.T) {
	for line, want := range map[string][]words.Field{
		``:                       nil,
		`a`:                      {bare("a")},
		`row "cloth stitch" 1`:   {bare("row"), quoted("cloth stitch"), bare("1")},
		`""`:                     {quoted("")},
		`"" ""`:                  {quoted(""), quoted("")},
		`" "`:                    {quoted(" ")},
		`""""`:                   {quoted(`"`)},
		`"say ""a""" b`:          {quoted(`say "a"`), bare("b")},
		`"a"" ""b" c`:            {quoted(`a" "b`), bare("c")},
		`"a" "b" c`:              {quoted("a"), quoted("b"), bare("c")},
		`! ~ # ' \n`:             {bare("!"), bare("~"), bare("#"), bare("'"), bare(`\n`)},
		strings.Repeat("x", 200): {bare(strings.Repeat("x", 200))},
	} {
		if l, e := words.Split(line); !slices.Equal(l, want) || e != api.OK {
			t.Errorf("Split(%q): %v, %d, want %v", line, l, e, want)
		}
		if got, e := words.Join(want); got != line || e != api.OK {
			t.Errorf("Join(%v): %q, %d, want %q", want, got, e, line)
		}
	}
}

// P1.5: the errors of Split, in their order.
func TestSplitErrors(t *testing.T) {
	many := strings.Repeat("a ", 64)
	for line, want := range map[string]api.Errno{
		" ":                                   api.ErrForm,
		"  ":                                  api.ErrForm,
		"a  b":                                api.ErrForm,
		" a":                                  api.ErrForm,
		"a ":                                  api.ErrForm,
		`a"b`:                                 api.ErrForm,
		`a"b c"`:                              api.ErrForm,
		`"a"b`:                                api.ErrForm,
		`"a" `:                                api.ErrForm,
		`"a"  "b"`:                            api.ErrForm,
		`"a""b" "`:                            api.ErrForm,
		`"a`:                                  api.ErrForm,
		`"a b`:                                api.ErrForm,
		`"`:                                   api.ErrForm,
		`"""`:                                 api.ErrForm,
		`"""a"`:                               api.OK,
		"a\tb":                                api.ErrForm,
		"a\nb":                                api.ErrForm,
		"a\n":                                 api.ErrForm,
		"\"\t\"":                              api.ErrForm,
		"é":                                   api.ErrForm,
		"a\x7f":                               api.ErrForm,
		strings.Repeat("a", 201):              api.ErrForm,
		`"` + strings.Repeat("a", 201) + `"`:  api.ErrForm,
		`"` + strings.Repeat("a", 200) + `"`:  api.OK,
		`"` + strings.Repeat(`""`, 200) + `"`: api.OK,
		`"` + strings.Repeat(`""`, 201) + `"`: api.ErrForm,
		many[:127]:                            api.OK,
		many + "a":                            api.ErrLong,
		many:                                  api.ErrForm,
		many + `"`:                            api.ErrForm,
		many + " a":                           api.ErrForm,
		many + strings.Repeat("a", 201):       api.ErrForm,
		strings.Repeat("a ", 2047) + "aa":     api.ErrLong,
		strings.Repeat("a ", 2047) + " a":     api.ErrForm,
		strings.Repeat("a ", 2048) + "a":      api.ErrLong,
		strings.Repeat(" ", 4097):             api.ErrLong,
		strings.Repeat(" ", 4096):             api.ErrForm,
		strings.Repeat("\"", 4097):            api.ErrLong,
	} {
		if l, e := words.Split(line); e != want || e != api.OK && len(l) != 0 {
			t.Errorf("Split(%.40q): %d fields, %d, want %d", line, len(l), e, want)
		}
	}
}

// P1.5: which bytes a bare and a quoted field may have.
func TestFieldBytes(t *testing.T) {
	for b, s := range everyByte() {
		isBare := 33 <= b && b <= 126 && b != 34
		if _, e := words.Split(s); (e == api.OK) != isBare {
			t.Errorf("Split of the byte %d: %d", b, e)
		}
		if _, e := words.Split("x" + s); (e == api.OK) != isBare {
			t.Errorf("Split of x and the byte %d: %d", b, e)
		}
		if _, e := words.Split(`"` + s + `"`); (e == api.OK) != (isBare || b == 32) {
			t.Errorf("Split of the quoted byte %d: %d", b, e)
		}
		if _, e := words.Join([]words.Field{bare(s)}); (e == api.OK) != isBare {
			t.Errorf("Join of the byte %d: %d", b, e)
		}
		if _, e := words.Join([]words.Field{quoted(s)}); (e == api.OK) != (32 <= b && b <= 126) {
			t.Errorf("Join of the quoted byte %d: %d", b, e)
		}
	}
}

var lineForm = regexp.MustCompile(`^(?:(?:[!#-~]{1,200}|"(?:[ !#-~]|""){0,200}")(?: (?:[!#-~]{1,200}|"(?:[ !#-~]|""){0,200}"))*)?$`)

// P1.5 and P1.7: Split of all short lines, and Join of the fields is the line.
func TestSplitOfAllLines(t *testing.T) {
	everyString("a\" ", 9, func(line string) {
		l, e := words.Split(line)
		if want := lineForm.MatchString(line); want != (e == api.OK) || !want && e != api.ErrForm {
			t.Errorf("Split(%q): %v, %d", line, l, e)
		}
		if e != api.OK {
			return
		}
		if back, e := words.Join(l); back != line || e != api.OK {
			t.Errorf("Join of Split(%q): %q, %d", line, back, e)
		}
	})
}

// P1.4 and P1.7: Unquote of all short strings, and Quote of what is found is the quotation.
func TestUnquoteOfAllStrings(t *testing.T) {
	form := regexp.MustCompile(`^"(?:[a ]|"")*"$`)
	everyString("a\" ", 9, func(q string) {
		s, e := words.Unquote(q)
		if want := form.MatchString(q); want != (e == api.OK) || !want && (e != api.ErrForm || s != "") {
			t.Errorf("Unquote(%q): %q, %d", q, s, e)
		}
		if e != api.OK {
			return
		}
		if back, e := words.Quote(s); back != q || e != api.OK {
			t.Errorf("Quote of Unquote(%q): %q, %d", q, back, e)
		}
	})
}

// P1.5: the errors of Join, in their order, and as many bytes as may be.
func TestJoinErrors(t *testing.T) {
	wide := slices.Repeat([]words.Field{bare(strings.Repeat("b", 200))}, 20)
	marks := slices.Repeat([]words.Field{quoted(strings.Repeat(`"`, 200))}, 10)
	with := func(l []words.Field, more ...words.Field) []words.Field { return slices.Concat(l, more) }
	for i, x := range []struct {
		l     []words.Field
		bytes int
		e     api.Errno
	}{
		{nil, 0, api.OK},
		{[]words.Field{}, 0, api.OK},
		{[]words.Field{bare("")}, 0, api.ErrArg},
		{[]words.Field{bare("a b")}, 0, api.ErrArg},
		{[]words.Field{bare(`a"b`)}, 0, api.ErrArg},
		{[]words.Field{bare("a\n")}, 0, api.ErrArg},
		{[]words.Field{bare(strings.Repeat("b", 201))}, 0, api.ErrArg},
		{[]words.Field{quoted(strings.Repeat("b", 201))}, 0, api.ErrArg},
		{[]words.Field{quoted("\x7f")}, 0, api.ErrArg},
		{[]words.Field{bare("a"), bare("b"), bare("")}, 0, api.ErrArg},
		{[]words.Field{quoted("")}, 2, api.OK},
		{slices.Repeat([]words.Field{bare("a")}, 64), 127, api.OK},
		{slices.Repeat([]words.Field{bare("a")}, 65), 0, api.ErrLong},
		{make([]words.Field, 65), 0, api.ErrLong},
		{make([]words.Field, 64), 0, api.ErrArg},
		{with(wide, bare(strings.Repeat("c", 76))), 4096, api.OK},
		{with(wide, bare(strings.Repeat("c", 77))), 0, api.ErrLong},
		{with(wide, bare(strings.Repeat("c", 77)), bare("")), 0, api.ErrArg},
		{with(wide, quoted(strings.Repeat("c", 74))), 4096, api.OK},
		{with(wide, quoted(strings.Repeat("c", 75))), 0, api.ErrLong},
		{with(marks, bare(strings.Repeat("c", 66))), 4096, api.OK},
		{with(marks, bare(strings.Repeat("c", 67))), 0, api.ErrLong},
	} {
		line, e := words.Join(x.l)
		if len(line) != x.bytes || e != x.e {
			t.Errorf("Join, case %d: %d bytes, %d, want %d, %d", i, len(line), e, x.bytes, x.e)
		}
		if back, e := words.Split(line); x.e == api.OK && (!slices.Equal(back, x.l) || e != api.OK) {
			t.Errorf("Split of Join, case %d: %d fields, %d", i, len(back), e)
		}
	}
}

// randomText returns a string of at most so many bytes from least to 126.
func randomText(r *rand.Rand, least, most int) string {
	b := make([]byte, r.IntN(most+1))
	for i := range b {
		b[i] = byte(least + r.IntN(127-least))
		if r.IntN(4) == 0 {
			b[i] = '"'
		}
	}
	return string(b)
}

// P1.7: Unquote of Quote is the string, and Split of Join the fields.
func TestFieldsComeBack(t *testing.T) {
	r := rand.New(rand.NewPCG(5, 6))
	for range 500 {
		var l []words.Field
		for range r.IntN(65) {
			s := randomText(r, 32, 20)
			q, e := words.Quote(s)
			if back, f := words.Unquote(q); e != api.OK || f != api.OK || back != s {
				t.Errorf("Unquote of Quote(%q): %q, %d, %d", s, back, e, f)
			}
			b := "b" + strings.ReplaceAll(randomText(r, 33, 20), `"`, "'")
			l = append(l, []words.Field{quoted(s), bare(b)}[r.IntN(2)])
		}
		line, e := words.Join(l)
		if e != api.OK {
			t.Fatalf("Join(%v): %d", l, e)
		}
		if back, e := words.Split(line); !slices.Equal(back, l) || e != api.OK {
			t.Errorf("Split(%q): %v, %d, want %v", line, back, e, l)
		}
	}
}

// P1.6: the lines of a text.
func TestLines(t *testing.T) {
	for s, want := range map[string][]string{
		"":               nil,
		"\n":             {""},
		"\n\n":           {"", ""},
		"a\n":            {"a"},
		"a\n\nb\n":       {"a", "", "b"},
		"\na\r\n \n":     {"", "a\r", " "},
		"\x00\xff\n\"\n": {"\x00\xff", "\""},
		"é\n\tb\n":       {"é", "\tb"},
	} {
		if l, e := words.Lines(s); !slices.Equal(l, want) || e != api.OK {
			t.Errorf("Lines(%q): %q, %d, want %q", s, l, e, want)
		}
	}
}

// P1.6: the errors of Lines, in their order, and what is just allowed.
func TestLinesErrors(t *testing.T) {
	for _, x := range []struct {
		s    string
		many int
		e    api.Errno
	}{
		{"a", 0, api.ErrForm},
		{"a\nb", 0, api.ErrForm},
		{"a\n ", 0, api.ErrForm},
		{"a\r", 0, api.ErrForm},
		{strings.Repeat("\n", 5000), 5000, api.OK},
		{strings.Repeat("ab\n", 5000), 5000, api.OK},
		{strings.Repeat("\n", 5001), 0, api.ErrLong},
		{strings.Repeat("\n", 5001) + "a", 0, api.ErrForm},
		{strings.Repeat("a", 1<<20-1) + "\n", 1, api.OK},
		{strings.Repeat("a", 1<<20), 0, api.ErrForm},
		{strings.Repeat("a", 1<<20) + "\n", 0, api.ErrLong},
		{strings.Repeat("a", 1<<20+1), 0, api.ErrLong},
		{strings.Repeat("\n", 1<<20), 0, api.ErrLong},
	} {
		if l, e := words.Lines(x.s); len(l) != x.many || e != x.e {
			t.Errorf("Lines of %d bytes: %d lines, %d, want %d, %d", len(x.s), len(l), e, x.many, x.e)
		}
	}
}
