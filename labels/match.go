package labels

import "abacus/api"

// signs stand between a matcher's name and its value.
var signs = [api.MatchCount]string{
	api.MatchIs:   "=",
	api.MatchNot:  "!=",
	api.MatchGlob: "=~",
	api.MatchElse: "!~",
}

// isRight tells whether a matcher may be: the patterns are the values, and the empty text.
func isRight(m api.Match) bool {
	return m.Kind > api.MatchNone && m.Kind < api.MatchCount && Name(m.Name) && (m.Value == "" || Value(m.Value) < 0)
}

// check tells what is wrong with matchers.
func check(l []api.Match) api.Errno {
	if len(l) > api.MaxLabels {
		return api.ErrMany
	}
	for _, m := range l {
		if !isRight(m) {
			return api.ErrMatch
		}
	}
	return api.OK
}

// Matches tells whether a set is what all matchers want.
func Matches(l []api.Label, want []api.Match) (bool, api.Errno) {
	if !Right(l) {
		return false, api.ErrLabel
	}
	if why := check(want); why != api.OK {
		return false, why
	}
	for _, m := range want {
		if !wants(m, l) {
			return false, api.OK
		}
	}
	return true, api.OK
}

// wants tells whether a set is what a matcher wants.
func wants(m api.Match, l []api.Label) bool {
	value := "" // of a label that is not there
	if i := find(l, m.Name); i >= 0 {
		value = l[i].Value
	}
	switch m.Kind {
	case api.MatchIs:
		return value == m.Value
	case api.MatchNot:
		return value != m.Value
	case api.MatchGlob:
		return Says(m.Value, value)
	}
	return !Says(m.Value, value)
}

// PrintMatch writes matchers.
func PrintMatch(l []api.Match) (string, api.Errno) {
	if why := check(l); why != api.OK {
		return "", why
	}
	return written(l, func(text []byte, m api.Match) []byte {
		text = append(text, m.Name...)
		text = append(text, signs[m.Kind]...)
		return quoted(text, m.Value)
	}), api.OK
}

// ParseMatch reads matchers; with an error, the place of the fault.
func ParseMatch(s string) ([]api.Match, api.Errno, int) {
	return read(s, (*reader).matcher)
}

// matcher reads a matcher that may stand behind others.
func (r *reader) matcher(ahead []api.Match) (api.Match, api.Errno) {
	from := r.at
	name := r.name()
	if name == "" {
		return api.Match{}, api.ErrLabel
	}
	kind := r.sign()
	if kind == api.MatchNone {
		return api.Match{}, api.ErrLabel
	}
	if len(ahead) == api.MaxLabels {
		r.at = from
		return api.Match{}, api.ErrMany
	}
	value, is := r.value()
	if !is {
		return api.Match{}, api.ErrLabel
	}
	return api.Match{Kind: kind, Name: name, Value: value}, api.OK
}

// sign reads a matcher's sign, byte by byte: a fault may be told behind the first one.
func (r *reader) sign() api.MatchKind {
	switch {
	case r.goesOn('='):
		if r.goesOn('~') {
			return api.MatchGlob
		}
		return api.MatchIs
	case r.goesOn('!'):
		if r.goesOn('=') {
			return api.MatchNot
		}
		if r.goesOn('~') {
			return api.MatchElse
		}
	}
	return api.MatchNone
}
