package query_test

import (
	"math"
	"slices"
	"strings"
	"testing"

	"abacus/api"
	"abacus/query"
)

func TestTexts(t *testing.T) { // the words: a question's text
	a, b, c := named("a"), named("b"), named("c")
	for _, x := range []struct {
		e    api.Expr
		want string
	}{
		{num(0), "0"},
		{num(1), "1"},
		{num(0.1), "0.1"},
		{num(100000), "100000"},
		{num(1000000), "1e+06"},
		{num(0.0001), "0.0001"},
		{num(0.00001), "1e-05"},
		{num(math.MaxFloat64), "1.7976931348623157e+308"},
		{num(math.SmallestNonzeroFloat64), "5e-324"},
		{a, "a"},
		{pick(), "{}"},
		{named("a", is("b", "c")), `a{b="c"}`},
		{named("a", is("b", "c"), is("__name__", "d")), `a{b="c",__name__="d"}`},
		{pick(is("b", "c"), is("__name__", "a")), `{b="c",__name__="a"}`},
		{pick(api.Match{Kind: api.MatchNot, Name: "__name__", Value: "a"}), `{__name__!="a"}`},
		{pick(api.Match{Kind: api.MatchGlob, Name: "__name__", Value: "a"}, is("b", "")), `{__name__=~"a",b=""}`},
		{pick(api.Match{Kind: api.MatchElse, Name: "__name__", Value: "a"}), `{__name__!~"a"}`},
		{pick(is("__name__", "")), `{__name__=""}`},
		{pick(is("__name__", "1a")), `{__name__="1a"}`},
		{pick(is("__name__", "a b"), is("b", "c")), `{__name__="a b",b="c"}`},
		{pick(is("__name__", strings.Repeat("n", api.MaxName+1))), `{__name__="` + strings.Repeat("n", api.MaxName+1) + `"}`},
		{named(strings.Repeat("n", api.MaxName)), strings.Repeat("n", api.MaxName)},
		{named("a", is("b", "\\\"\n{}é")), `a{b="\\\"\n{}é"}`},
		{over(a, 5*minute), "a[5m]"},
		{over(pick(), 90*minute+1), "{}[1h30m1ns]"},
		{over(a, api.MaxAt), "a[640511h56m49s213ms693us952ns]"},
		{sooner(a, 1), "a offset 1ns"},
		{sooner(over(named("a", is("b", "c")), sec), ms), `a{b="c"}[1s] offset 1ms`},
		{call("rate", over(a, sec)), "rate(a[1s])"},
		{call("rate", call("rate", num(1))), "rate(rate(1))"},
		{call("last_over_time", both("+", a, b)), "last_over_time(a + b)"},
		{group("sum", a), "sum(a)"},
		{by("sum", a), "sum by () (a)"},
		{without("count", a), "count without () (a)"},
		{by("max", a, "x"), "max by (x) (a)"},
		{without("avg", sooner(a, sec), "A", "_", "by"), "avg without (A,_,by) (a offset 1s)"},
		{group("min", both("<", a, num(1))), "min(a < 1)"},
		{both("+", a, b), "a + b"},
		{both("-", both("-", a, b), c), "(a - b) - c"},
		{both("-", a, both("-", b, c)), "a - (b - c)"},
		{both("<", both("*", a, b), both(">", b, c)), "(a * b) < (b > c)"},
		{both("/", num(1), group("sum", both("/", a, b))), "1 / sum(a / b)"},
		{both(">", sooner(a, sec), over(b, sec)), "a offset 1s > b[1s]"},
	} {
		writes(t, x.e, x.want)
	}
	for _, word := range slices.Concat(functionWords, takingWords, otherWords) { // no word of the language is a select's
		writes(t, pick(is("__name__", word)), `{__name__="`+word+`"}`)
		writes(t, pick(is("__name__", word), is("b", "c")), `{__name__="`+word+`",b="c"}`)
		writes(t, named(word+"_"), word+"_")
		writes(t, named(strings.ToUpper(word)), strings.ToUpper(word))
	}
	for _, sign := range allSigns {
		writes(t, both(sign, a, num(2)), "a "+sign+" 2")
	}
	for _, word := range functionWords {
		writes(t, call(word, over(a, 1)), word+"(a[1ns])")
	}
	for _, word := range takingWords {
		writes(t, group(word, a), word+"(a)")
	}
}

func TestQuestionsThatMayNotBe(t *testing.T) { // 25.2, and the words
	a := named("a")
	right := map[string]api.Expr{
		"a number": num(1), "a select": sooner(over(named("a", is("b", "c")), sec), sec), "a call": call("rate", over(a, sec)),
		"a group": group("sum", a), "a group by": by("sum", a, "x", "y"), "a group without": without("sum", a, "x", "y"), "a binary": both("+", a, num(1)),
	}
	type change struct {
		what string
		of   string // the questions that have the field
		do   func(*api.Expr)
	}
	for _, x := range []change{
		{"no kind", "", func(e *api.Expr) { e.Kind = api.ExprNone }},
		{"a kind that is none", "", func(e *api.Expr) { e.Kind = api.ExprCount }},
		{"the last kind", "", func(e *api.Expr) { e.Kind = 255 }},
		{"an Op that is none", "", func(e *api.Expr) { e.Op += "x" }},
		{"an Op with a blank", "", func(e *api.Expr) { e.Op += " " }},
		{"no Op", "a number, a select", func(e *api.Expr) { e.Op = "" }},
		{"a function's Op", "a call", func(e *api.Expr) { e.Op = "increase" }},
		{"a function's Op in capitals", "", func(e *api.Expr) { e.Op = "RATE" }},
		{"a taking Op", "a group, a group by, a group without", func(e *api.Expr) { e.Op = "max" }},
		{"a sign as Op", "a binary", func(e *api.Expr) { e.Op = "*" }},
		{"two signs as Op", "", func(e *api.Expr) { e.Op = "+-" }},
		{"a parenthesis as Op", "", func(e *api.Expr) { e.Op = "(" }},
		{"a word as Op", "", func(e *api.Expr) { e.Op = "by" }},
		{"an X", "a number", func(e *api.Expr) { e.X = 2 }},
		{"an X of -0", "", func(e *api.Expr) { e.X = minus }},
		{"an X below 0", "", func(e *api.Expr) { e.X = -1 }},
		{"an X just below 0", "", func(e *api.Expr) { e.X = -math.SmallestNonzeroFloat64 }},
		{"an infinite X", "", func(e *api.Expr) { e.X = inf }},
		{"an X of -infinity", "", func(e *api.Expr) { e.X = -inf }},
		{"an X that is no number", "", func(e *api.Expr) { e.X = nan }},
		{"a matcher", "a select", func(e *api.Expr) { e.Match = []api.Match{is("b", "c")} }},
		{"a matcher of no kind", "", func(e *api.Expr) { e.Match = []api.Match{{Name: "b"}} }},
		{"a matcher of a kind that is none", "", func(e *api.Expr) { e.Match = []api.Match{{Kind: api.MatchCount, Name: "b"}} }},
		{"a matcher without a name", "", func(e *api.Expr) { e.Match = []api.Match{is("", "c")} }},
		{"a matcher's name that is none", "", func(e *api.Expr) { e.Match = []api.Match{is("b", "c"), is("1", "c")} }},
		{"a matcher's value that is none", "", func(e *api.Expr) { e.Match = []api.Match{is("b", "\xff")} }},
		{"a name's value that is none", "", func(e *api.Expr) { e.Match = []api.Match{is("__name__", "\xff")} }},
		{"a value that is too long", "", func(e *api.Expr) { e.Match = []api.Match{is("b", strings.Repeat("v", api.MaxValue+1))} }},
		{"a Span", "a select", func(e *api.Expr) { e.Span = 1 }},
		{"a Span below 0", "", func(e *api.Expr) { e.Span = -1 }},
		{"a Span above MaxAt", "", func(e *api.Expr) { e.Span = api.MaxAt + 1 }},
		{"the least Span", "", func(e *api.Expr) { e.Span = math.MinInt64 }},
		{"an Offset", "a select", func(e *api.Expr) { e.Offset = api.MaxAt }},
		{"an Offset below 0", "", func(e *api.Expr) { e.Offset = -1 }},
		{"an Offset above MaxAt", "", func(e *api.Expr) { e.Offset = api.MaxAt + 1 }},
		{"a Group", "a group, a group by, a group without", func(e *api.Expr) { e.Group = api.GroupBy }},
		{"another Group", "a group, a group by, a group without", func(e *api.Expr) { e.Group = api.GroupWithout }},
		{"a Group of names that are there", "a number, a select, a call, a group, a binary", func(e *api.Expr) { e.Group = api.GroupAll }},
		{"a Group that is none", "", func(e *api.Expr) { e.Group = api.GroupCount }},
		{"the last Group", "", func(e *api.Expr) { e.Group = 255 }},
		{"names", "a group by, a group without", func(e *api.Expr) { e.Names = []string{"x"} }},
		{"a name that is none", "", func(e *api.Expr) { e.Names = []string{"x", "y-"} }},
		{"an empty name", "", func(e *api.Expr) { e.Names = []string{""} }},
		{"a name that is too long", "", func(e *api.Expr) { e.Names = []string{strings.Repeat("n", api.MaxName+1)} }},
		{"names that fall", "", func(e *api.Expr) { e.Names = []string{"y", "x"} }},
		{"a name twice", "", func(e *api.Expr) { e.Names = []string{"x", "x"} }},
		{"no kids", "a number, a select", func(e *api.Expr) { e.Kids = nil }},
		{"one kid", "a call, a group, a group by, a group without", func(e *api.Expr) { e.Kids = []api.Expr{num(1)} }},
		{"two kids", "a binary", func(e *api.Expr) { e.Kids = []api.Expr{num(1), num(2)} }},
		{"three kids", "", func(e *api.Expr) { e.Kids = []api.Expr{num(1), num(2), num(3)} }},
		{"a kid that is none", "", func(e *api.Expr) { e.Kids = []api.Expr{{}} }},
		{"a second kid that is none", "", func(e *api.Expr) { e.Kids = []api.Expr{num(1), num(-1)} }},
		{"a first kid that is none", "", func(e *api.Expr) { e.Kids = []api.Expr{num(nan), num(1)} }},
		{"kids that are wrong within", "", func(e *api.Expr) { e.Kids = []api.Expr{call("rate", call("rate", num(inf)))} }},
	} {
		for what, e := range right {
			x.do(&e)
			switch {
			case !slices.Contains(strings.Split(x.of, ", "), what):
				isWrong(t, what+" with "+x.what, e)
			case query.Check(e) != api.OK:
				t.Errorf("%s with %s: error %d", what, x.what, query.Check(e))
			default:
				parses(t, text(t, e), e)
			}
		}
	}
}

func TestQuestionsThatAreTooGreat(t *testing.T) { // P1: these end, too
	e := named("a")
	for range 1 << 16 { // so deep
		e = api.Expr{Kind: api.ExprCall, Op: "rate", Kids: []api.Expr{e}}
	}
	isWrong(t, "a call so deep", e)
	if !query.Same(e, e) || query.Same(e, e.Kids[0]) {
		t.Error("Same of such calls")
	}
	e = num(1)
	for range 100 { // so wide, though it has little memory
		e = both("+", e, e)
	}
	isWrong(t, "a sum so wide", e)
	e = num(1)
	for range 20 {
		e = api.Expr{Kind: api.ExprBinary, Op: "+", Kids: []api.Expr{e, e}}
	}
	isWrong(t, "a sum as wide as may be handed in", e)
	if !query.Same(e, e) {
		t.Error("Same of such sums")
	}
	isWrong(t, "a long Op", api.Expr{Kind: api.ExprCall, Op: strings.Repeat("rate", 1<<20), Kids: []api.Expr{num(1)}})
	isWrong(t, "very many matchers", pick(make([]api.Match, 1<<20)...))
	isWrong(t, "very many names", by("sum", num(1), make([]string, 1<<20)...))
	isWrong(t, "very many kids", api.Expr{Kind: api.ExprBinary, Op: "+", Kids: make([]api.Expr, 1<<20)})
}

func TestSame(t *testing.T) { // 25.2
	all := []api.Expr{ // no two are the same
		{}, num(0), num(minus), num(1), num(nan), num(inf),
		named("a"), named("b"), named("a", is("b", "c")), named("a", is("b", "d")), named("a", is("c", "c")), named("a", api.Match{Kind: api.MatchNot, Name: "b", Value: "c"}),
		over(named("a"), 1), sooner(named("a"), 1), over(sooner(named("a"), 1), 1), pick(), pick(is("b", "c"), is("a", "b")), pick(is("a", "b"), is("b", "c")),
		call("rate", named("a")), call("increase", named("a")), call("rate", named("b")),
		group("sum", named("a")), by("sum", named("a")), without("sum", named("a")), by("sum", named("a"), "x"), by("sum", named("a"), "x", "y"), by("sum", named("a"), "y", "x"),
		both("+", num(1), num(2)), both("+", num(2), num(1)), both("-", num(1), num(2)), both("+", num(1), num(minus)), both("+", num(1), num(0)),
		{Kind: 200, Op: "x"}, {Kind: 200, Group: 7}, {Kids: []api.Expr{{}}}, {Kids: []api.Expr{{}, {}}}, {Kids: []api.Expr{{Kids: []api.Expr{{}}}}},
	}
	for i, a := range all {
		for j, b := range all {
			if query.Same(a, b) != (i == j) {
				t.Errorf("Same(%v, %v): %v", a, b, i != j)
			}
		}
	}
	empty := api.Expr{Match: []api.Match{}, Names: []string{}, Kids: []api.Expr{}}
	if !query.Same(empty, api.Expr{}) || !query.Same(api.Expr{}, empty) {
		t.Error("nil and empty lists are unlike")
	}
	other := math.Float64frombits(0xfff8000000000123)
	if !query.Same(num(nan), num(other)) {
		t.Error("what is no number is unlike by its bits")
	}
	writes(t, api.Expr{Kind: api.ExprNumber, X: 1, Match: []api.Match{}, Names: []string{}, Kids: []api.Expr{}}, "1")
}

func TestPrintChangesNothing(t *testing.T) { // 25.6
	e := by("sum", both("+", named("a", is("b", "c")), num(1)), "x", "y")
	kept := by("sum", both("+", named("a", is("b", "c")), num(1)), "x", "y")
	first := text(t, e)
	query.Check(e)
	query.Type(e)
	query.Same(e, e)
	if !isSame(e, kept) {
		t.Error("what was handed in is changed:", e)
	}
	if second := text(t, e); first != second {
		t.Errorf("%q, then %q", first, second)
	}
}
