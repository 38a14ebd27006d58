// Package braces: where labels, or matchers, end within a longer text.
package braces

// End is the place behind the first } of a text that stands in no quotes: 0, if there is none.
func End(s string) int {
	quoted := false
	for i := 0; i < len(s); i++ {
		switch {
		case s[i] == '"':
			quoted = !quoted
		case quoted && s[i] == '\\': // the byte behind it goes with it, a quote too
			i++
		case !quoted && s[i] == '}':
			return i + 1
		}
	}
	return 0
}
