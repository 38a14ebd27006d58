package query

import (
	"math"
	"strings"

	"abacus/api"
	"abacus/expo"
	"abacus/labels"
	"abacus/times"
)

// writer writes a question's text. It gives up as soon as there is none, or too long a one: so whatever is handed in, it ends.
type writer struct {
	text []byte
	deep int // how many parentheses are open
}

// question writes a question; false, if it may not be.
func (w *writer) question(e api.Expr) bool {
	unused := e // the fields that its kind does not use
	switch e.Kind {
	case api.ExprNumber:
		unused.X = 0
		return isBlank(unused, 0) && w.number(e.X)
	case api.ExprSelect:
		unused.Match, unused.Span, unused.Offset = nil, 0, 0
		return isBlank(unused, 0) && w.choice(e)
	case api.ExprCall:
		unused.Op = ""
		return isBlank(unused, 1) && isFunction(e.Op) && w.add(e.Op) && w.inner(e.Kids[0])
	case api.ExprGroup:
		unused.Op, unused.Group, unused.Names = "", api.GroupAll, nil
		return isBlank(unused, 1) && isTaking(e.Op) && w.add(e.Op) && w.group(e.Group, e.Names) && w.inner(e.Kids[0])
	case api.ExprBinary:
		unused.Op = ""
		return isBlank(unused, 2) && isSign(e.Op) && w.side(e.Kids[0]) && w.add(" ", e.Op, " ") && w.side(e.Kids[1])
	}
	return false
}

// isBlank tells whether all fields are zero, and there are so many kids.
func isBlank(e api.Expr, kids int) bool {
	return e.Op == "" && math.Float64bits(e.X) == 0 && len(e.Match) == 0 && e.Span == 0 && e.Offset == 0 && e.Group == api.GroupAll && len(e.Names) == 0 && len(e.Kids) == kids
}

// add appends texts; false, if a question's text would be too long.
func (w *writer) add(texts ...string) bool {
	for _, text := range texts {
		if len(text) > api.MaxQuery-len(w.text) {
			return false
		}
		w.text = append(w.text, text...)
	}
	return true
}

// inner writes a question in parentheses.
func (w *writer) inner(e api.Expr) bool {
	if w.deep == api.MaxDeep {
		return false
	}
	w.deep++
	is := w.add("(") && w.question(e) && w.add(")")
	w.deep--
	return is
}

// side writes what stands beside a sign.
func (w *writer) side(e api.Expr) bool {
	if e.Kind == api.ExprBinary {
		return w.inner(e)
	}
	return w.question(e)
}

func (w *writer) number(x float64) bool {
	return !math.Signbit(x) && !math.IsInf(x, 0) && !math.IsNaN(x) && w.add(expo.Float(x))
}

// choice writes a select.
func (w *writer) choice(e api.Expr) bool {
	text, why := labels.PrintMatch(e.Match)
	if why != api.OK {
		return false
	}
	if len(e.Match) > 0 && isSelectWord(e.Match[0]) {
		text = ""
		if len(e.Match) > 1 {
			text, _ = labels.PrintMatch(e.Match[1:])
		}
		text = e.Match[0].Value + text
	}
	return w.add(text) && w.span("[", e.Span, "]") && w.span(" "+offsetWord+" ", e.Offset, "")
}

// isSelectWord tells whether a matcher is written as a word.
func isSelectWord(m api.Match) bool {
	return m.Kind == api.MatchIs && m.Name == nameLabel && labels.Name(m.Value) && !isOfLanguage(m.Value)
}

// span writes a span between two texts: nothing of 0.
func (w *writer) span(ahead string, span int64, behind string) bool {
	if span == 0 {
		return true
	}
	text, why := times.PrintSpan(span)
	return why == api.OK && w.add(ahead, text, behind)
}

// group writes by what rows are taken together.
func (w *writer) group(kind api.GroupKind, names []string) bool {
	var word string
	switch kind {
	case api.GroupAll:
		return len(names) == 0
	case api.GroupBy:
		word = byWord
	case api.GroupWithout:
		word = withoutWord
	default:
		return false
	}
	return areNames(names) && w.add(" ", word, " (", strings.Join(names, ","), ") ")
}

// areNames tells whether texts are names that rise, and not too many.
func areNames(l []string) bool {
	if len(l) > api.MaxLabels {
		return false
	}
	for i, name := range l {
		if !labels.Name(name) || i > 0 && l[i-1] >= name {
			return false
		}
	}
	return true
}
