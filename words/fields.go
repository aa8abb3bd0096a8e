package words

import (
	"strings"

	"torchon/api"
)

// Quote returns the quotation of a string.
func Quote(s string) (string, api.Errno) {
	if !Text(s) {
		return "", api.ErrArg
	}
	return quotation(s), api.OK
}

func quotation(s string) string {
	return `"` + strings.ReplaceAll(s, `"`, `""`) + `"`
}

// Unquote returns the string whose quotation s is.
func Unquote(s string) (string, api.Errno) {
	if len(s) < 2 {
		return "", api.ErrForm
	}
	// Cloned, because without a doubled mark ReplaceAll returns a part of s itself.
	text := strings.Clone(strings.ReplaceAll(s[1:len(s)-1], `""`, `"`))
	if !Text(text) || quotation(text) != s {
		return "", api.ErrForm
	}
	return text, api.OK
}

// Split returns the fields of a line.
func Split(line string) ([]Field, api.Errno) {
	if len(line) > api.MaxLine {
		return nil, api.ErrLong
	}
	var l []Field
	for more := line != ""; more; {
		var written string
		written, line, more = cutField(line)
		f, ok := readField(written)
		if !ok {
			return nil, api.ErrForm
		}
		l = append(l, f)
	}
	if len(l) > api.MaxFields {
		return nil, api.ErrLong
	}
	return l, api.OK
}

// cutField divides a line at the end of its first field; more says that a blank, and thus another field, follows.
func cutField(line string) (written, rest string, more bool) {
	inside := false
	ends := func(r rune) bool {
		if r == '"' {
			inside = !inside // a doubled mark changes this twice, so the field goes on
		}
		return r == ' ' && !inside
	}
	end := strings.IndexFunc(line, ends)
	if end < 0 {
		return line, "", false
	}
	return line[:end], line[end+1:], true
}

func readField(written string) (Field, bool) {
	if strings.HasPrefix(written, `"`) {
		text, e := Unquote(written)
		return Field{Quoted: true, S: text}, e == api.OK
	}
	return Field{S: strings.Clone(written)}, isBare(written)
}

// isBare reports whether s may be a field without being quoted.
func isBare(s string) bool {
	return s != "" && len(s) <= api.MaxText && within(s, '!', '~') && !strings.Contains(s, `"`)
}

// Join returns the line of fields.
func Join(l []Field) (string, api.Errno) {
	if len(l) > api.MaxFields {
		return "", api.ErrLong
	}
	var line strings.Builder
	for i, f := range l {
		written, ok := writeField(f)
		if !ok {
			return "", api.ErrArg
		}
		if i > 0 {
			line.WriteByte(' ')
		}
		line.WriteString(written)
	}
	if line.Len() > api.MaxLine {
		return "", api.ErrLong
	}
	return line.String(), api.OK
}

func writeField(f Field) (string, bool) {
	if f.Quoted {
		written, e := Quote(f.S)
		return written, e == api.OK
	}
	return f.S, isBare(f.S)
}

// Lines returns the lines of a text, without the bytes 10 that end them.
func Lines(s string) ([]string, api.Errno) {
	if len(s) > api.MaxSheet {
		return nil, api.ErrLong
	}
	if s == "" {
		return nil, api.OK
	}
	if !strings.HasSuffix(s, "\n") {
		return nil, api.ErrForm
	}
	if strings.Count(s, "\n") > api.MaxLines {
		return nil, api.ErrLong
	}
	l := strings.Split(s[:len(s)-1], "\n")
	for i := range l {
		l[i] = strings.Clone(l[i])
	}
	return l, api.OK
}
