package labels

import (
	"strings"
	"unicode/utf8"

	"abacus/api"
)

// Print writes a set.
func Print(l []api.Label) (string, api.Errno) {
	if !Right(l) {
		return "", api.ErrLabel
	}
	return written(l, func(text []byte, x api.Label) []byte {
		text = append(text, x.Name...)
		text = append(text, '=')
		return quoted(text, x.Value)
	}), api.OK
}

// Parse reads a set; with an error, the place of the fault.
func Parse(s string) ([]api.Label, api.Errno, int) {
	l, why, at := read(s, (*reader).label)
	if why != api.OK {
		return nil, why, at
	}
	return setOf(l), api.OK, 0
}

// written is a list as a text; each item is appended by a function.
func written[T any](l []T, item func([]byte, T) []byte) string {
	text := []byte{'{'}
	for i, x := range l {
		if i > 0 {
			text = append(text, ',')
		}
		text = item(text, x)
	}
	return string(append(text, '}'))
}

// quoted appends a value in quotes.
func quoted(text []byte, value string) []byte {
	text = append(text, '"')
	for _, c := range value {
		switch c {
		case '\\', '"':
			text = append(text, '\\', byte(c))
		case '\n':
			text = append(text, '\\', 'n')
		default:
			text = utf8.AppendRune(text, c)
		}
	}
	return append(text, '"')
}

// reader goes through a text from the left; at a fault it stands at the place that is told of it.
type reader struct {
	text string
	at   int
}

// read reads a list, each item by a function that is told those ahead of it; with an error, the place of the fault.
func read[T any](s string, item func(*reader, []T) (T, api.Errno)) ([]T, api.Errno, int) {
	r := &reader{text: s}
	l, why := items(r, item)
	if why != api.OK {
		return nil, why, r.at
	}
	return l, api.OK, 0
}

func items[T any](r *reader, item func(*reader, []T) (T, api.Errno)) ([]T, api.Errno) {
	if !r.goesOn('{') {
		return nil, api.ErrLabel
	}
	var l []T
	if !r.goesOn('}') {
		for more := true; more; more = r.goesOn(',') {
			x, why := item(r, l)
			if why != api.OK {
				return nil, why
			}
			l = append(l, x)
		}
		if !r.goesOn('}') {
			return nil, api.ErrLabel
		}
	}
	if r.at < len(r.text) {
		return nil, api.ErrLabel
	}
	return l, api.OK
}

// label reads a label that may stand behind others.
func (r *reader) label(ahead []api.Label) (api.Label, api.Errno) {
	from := r.at
	name := r.name()
	if name == "" || !r.goesOn('=') {
		return api.Label{}, api.ErrLabel
	}
	if len(ahead) == api.MaxLabels {
		r.at = from
		return api.Label{}, api.ErrMany
	}
	if find(ahead, name) >= 0 {
		r.at = from
		return api.Label{}, api.ErrTwice
	}
	value, is := r.value()
	if is && value == "" {
		r.at-- // its second quote
		is = false
	}
	if !is {
		return api.Label{}, api.ErrLabel
	}
	return api.Label{Name: name, Value: value}, api.OK
}

// goesOn tells whether the text goes on with a byte, and steps over it.
func (r *reader) goesOn(c byte) bool {
	is := r.at < len(r.text) && r.text[r.at] == c
	if is {
		r.at++
	}
	return is
}

// name reads a name: nothing, if none is there.
func (r *reader) name() string {
	from := r.at
	r.at += nameLength(r.text[from:])
	return strings.Clone(r.text[from:r.at])
}

// value reads a value in quotes, which may be empty.
func (r *reader) value() (string, bool) {
	if !r.goesOn('"') {
		return "", false
	}
	from := r.at
	var told []byte
	escaped := false
	for i, c := range characters(r.text[from:]) {
		r.at = from + i
		switch {
		case escaped:
			one := unescaped(c)
			if one == 0 {
				return "", false
			}
			told = append(told, one)
			escaped = false
		case c == '"':
			r.at++
			return string(told), true
		case c == noCharacter, c == '\n', len(told) == api.MaxValue:
			return "", false
		case c == '\\':
			escaped = true
		case len(told)+utf8.RuneLen(c) > api.MaxValue:
			r.at += api.MaxValue - len(told)
			return "", false
		default:
			told = utf8.AppendRune(told, c)
		}
	}
	r.at = len(r.text)
	return "", false
}

// unescaped is the byte for which a character stands behind a backslash: 0, if it stands for none.
func unescaped(c rune) byte {
	switch c {
	case '\\', '"':
		return byte(c)
	case 'n':
		return '\n'
	}
	return 0
}
