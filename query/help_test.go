package query_test

import (
	"math"
	"reflect"
	"slices"
	"strings"
	"testing"

	"abacus/api"
	"abacus/query"
	"abacus/store"
)

var (
	inf   = math.Inf(1)
	minus = math.Copysign(0, -1)
	nan   = math.NaN()
)

const (
	ms     = int64(1e6)
	sec    = int64(1e9)
	minute = 60 * sec
)

var functionWords = []string{"rate", "increase", "sum_over_time", "avg_over_time", "min_over_time", "max_over_time", "count_over_time", "last_over_time"}

var takingWords = []string{"sum", "min", "max", "avg", "count"}

var otherWords = []string{"by", "without", "offset"}

var allSigns = []string{"+", "-", "*", "/", "<", ">"}

// of are labels, of names and values.
func of(words ...string) []api.Label {
	var l []api.Label
	for i := 0; i+1 < len(words); i += 2 {
		l = append(l, api.Label{Name: words[i], Value: words[i+1]})
	}
	return l
}

func num(x float64) api.Expr {
	return api.Expr{Kind: api.ExprNumber, X: x}
}

func is(name, value string) api.Match {
	return api.Match{Kind: api.MatchIs, Name: name, Value: value}
}

// pick is a select of matchers.
func pick(l ...api.Match) api.Expr {
	return api.Expr{Kind: api.ExprSelect, Match: l}
}

// named is a select of a name, and of matchers behind it.
func named(name string, l ...api.Match) api.Expr {
	return pick(append([]api.Match{is("__name__", name)}, l...)...)
}

func over(e api.Expr, span int64) api.Expr {
	e.Span = span
	return e
}

func sooner(e api.Expr, offset int64) api.Expr {
	e.Offset = offset
	return e
}

func call(op string, kid api.Expr) api.Expr {
	return api.Expr{Kind: api.ExprCall, Op: op, Kids: []api.Expr{kid}}
}

func group(op string, kid api.Expr) api.Expr {
	return api.Expr{Kind: api.ExprGroup, Op: op, Kids: []api.Expr{kid}}
}

func by(op string, kid api.Expr, names ...string) api.Expr {
	return api.Expr{Kind: api.ExprGroup, Op: op, Group: api.GroupBy, Names: names, Kids: []api.Expr{kid}}
}

func without(op string, kid api.Expr, names ...string) api.Expr {
	return api.Expr{Kind: api.ExprGroup, Op: op, Group: api.GroupWithout, Names: names, Kids: []api.Expr{kid}}
}

func both(op string, a, b api.Expr) api.Expr {
	return api.Expr{Kind: api.ExprBinary, Op: op, Kids: []api.Expr{a, b}}
}

// isSame holds questions against each other field by field, nil and empty lists being alike.
func isSame(a, b api.Expr) bool {
	return reflect.DeepEqual(plain(a), plain(b)) && slices.Equal(floatsOf(a), floatsOf(b))
}

// floatsOf are the bits of all floats of a question.
func floatsOf(e api.Expr) []uint64 {
	l := []uint64{math.Float64bits(e.X)}
	for _, kid := range e.Kids {
		l = append(l, floatsOf(kid)...)
	}
	return l
}

// plain is a question whose empty lists are nil, and whose floats are 0.
func plain(e api.Expr) api.Expr {
	e.X = 0
	e.Match, e.Names = slices.Clip(e.Match), slices.Clip(e.Names)
	if len(e.Match) == 0 {
		e.Match = nil
	}
	if len(e.Names) == 0 {
		e.Names = nil
	}
	var kids []api.Expr
	for _, kid := range e.Kids {
		kids = append(kids, plain(kid))
	}
	e.Kids = kids
	return e
}

func parses(t *testing.T, s string, want api.Expr) {
	t.Helper()
	if e, why, at := query.Parse(s); why != api.OK || at != 0 || !isSame(e, want) || !query.Same(e, want) {
		t.Errorf("Parse(%.300q): %v, error %d at %d, want %v", s, e, why, at, want)
	}
}

func refuses(t *testing.T, s string, why api.Errno, at int) {
	t.Helper()
	if e, got, place := query.Parse(s); got != why || place != at || !reflect.DeepEqual(e, api.Expr{}) {
		t.Errorf("Parse(%.300q): %v, error %d at %d, want error %d at %d", s, e, got, place, why, at)
	}
}

// writes holds a right question's text, which is read as the question.
func writes(t *testing.T, e api.Expr, want string) {
	t.Helper()
	if text, why := query.Print(e); text != want || why != api.OK {
		t.Errorf("Print(%v): %.300q, error %d, want %q", e, text, why, want)
	}
	if why := query.Check(e); why != api.OK {
		t.Errorf("Check(%v): error %d", e, why)
	}
	parses(t, want, e)
}

// isWrong holds that a question may not be, whatever is asked of it.
func isWrong(t *testing.T, what string, e api.Expr) {
	t.Helper()
	if why := query.Check(e); why != api.ErrExpr {
		t.Errorf("%s: Check: error %d", what, why)
	}
	if text, why := query.Print(e); text != "" || why != api.ErrExpr {
		t.Errorf("%s: Print: %.300q, error %d", what, text, why)
	}
	if got, why := query.Type(e); got != api.TypeNone || why != api.ErrExpr {
		t.Errorf("%s: Type: %d, error %d", what, got, why)
	}
	s, _ := store.New(1)
	for _, at := range []int64{0, -1} {
		if a, why := query.Ask(s, e, at); !reflect.DeepEqual(a, api.Answer{}) || why != api.ErrExpr {
			t.Errorf("%s: Ask: %v, error %d", what, a, why)
		}
	}
}

func made(t *testing.T, width int64) *store.Store {
	t.Helper()
	s, why := store.New(width)
	if why != api.OK {
		t.Fatalf("store.New(%d): error %d", width, why)
	}
	return s
}

// puts puts dots, moments in seconds and values by turns.
func puts(t *testing.T, s *store.Store, set []api.Label, l ...float64) {
	t.Helper()
	for i := 0; i+1 < len(l); i += 2 {
		if why := s.Append(set, api.Dot{At: int64(l[i] * 1e9), V: l[i+1]}); why != api.OK {
			t.Fatalf("Append(%v, %v, %v): error %d", set, l[i], l[i+1], why)
		}
	}
}

func row(x float64, words ...string) api.Rowed {
	return api.Rowed{Labels: of(words...), X: x}
}

func sameAnswer(a, b api.Answer) bool {
	return a.Type == b.Type && math.Float64bits(a.X) == math.Float64bits(b.X) && slices.EqualFunc(a.Rows, b.Rows, func(x, y api.Rowed) bool {
		return slices.Equal(x.Labels, y.Labels) && math.Float64bits(x.X) == math.Float64bits(y.X)
	})
}

func parsed(t *testing.T, q string) api.Expr {
	t.Helper()
	e, why, at := query.Parse(q)
	if why != api.OK {
		t.Fatalf("Parse(%q): error %d at %d", q, why, at)
	}
	return e
}

// asks holds the rows that a question answers, at a moment.
func asks(t *testing.T, s *store.Store, q string, at int64, rows ...api.Rowed) {
	t.Helper()
	if a, why := query.Ask(s, parsed(t, q), at); why != api.OK || !sameAnswer(a, api.Answer{Type: api.TypeRows, Rows: rows}) {
		t.Errorf("%s at %d: %v, error %d, want %v", q, at, a, why, rows)
	}
}

// counts holds the number that a question answers.
func counts(t *testing.T, q string, want float64) {
	t.Helper()
	if a, why := query.Ask(made(t, 1), parsed(t, q), 0); why != api.OK || !sameAnswer(a, api.Answer{Type: api.TypeNumber, X: want}) {
		t.Errorf("%s: %v, error %d, want %v", q, a, why, want)
	}
}

// fails holds a question's error.
func fails(t *testing.T, s *store.Store, q string, at int64, want api.Errno) {
	t.Helper()
	if a, why := query.Ask(s, parsed(t, q), at); why != want || !reflect.DeepEqual(a, api.Answer{}) {
		t.Errorf("%s at %d: %v, error %d, want error %d", q, at, a, why, want)
	}
}

// deep is a text within so many parentheses.
func deep(n int, ahead, text string) string {
	return strings.Repeat(ahead+"(", n) + text + strings.Repeat(")", n)
}
