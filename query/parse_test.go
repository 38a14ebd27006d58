package query_test

import (
	"math"
	"slices"
	"strconv"
	"strings"
	"testing"
	"unsafe"

	"abacus/api"
	"abacus/query"
)

func TestExamplesOfTexts(t *testing.T) { // examples 1 and 2
	a, b := named("a"), named("b")
	parses(t, "a + b * 2", both("+", a, both("*", b, num(2))))
	writes(t, both("+", a, both("*", b, num(2))), "a + (b * 2)")
	writes(t, by("sum", call("rate", sooner(over(named("http_total", is("code", "200")), 5*minute), 60*minute)), "x"), `sum by (x) (rate(http_total{code="200"}[5m] offset 1h))`)
	writes(t, pick(is("a", "1")), `{a="1"}`)
	refuses(t, "a +", api.ErrQuery, 3)
	refuses(t, "a b", api.ErrQuery, 2)
	refuses(t, "rate(a[5x])", api.ErrQuery, 6)
	refuses(t, "sum a", api.ErrQuery, 4)
	refuses(t, "1..2", api.ErrQuery, 0)
	refuses(t, "a{", api.ErrQuery, 1)
}

func TestSigns(t *testing.T) { // the words: what goes ahead of what, and from the left
	a, b, c, d := named("a"), named("b"), named("c"), named("d")
	for _, x := range []struct {
		text string
		want api.Expr
	}{
		{"a+b", both("+", a, b)},
		{"a + b - c", both("-", both("+", a, b), c)},
		{"a - b + c", both("+", both("-", a, b), c)},
		{"a-(b-c)", both("-", a, both("-", b, c))},
		{"a * b / c", both("/", both("*", a, b), c)},
		{"a / b * c", both("*", both("/", a, b), c)},
		{"a / (b * c)", both("/", a, both("*", b, c))},
		{"a + b * c - d", both("-", both("+", a, both("*", b, c)), d)},
		{"(a + b) * (c - d)", both("*", both("+", a, b), both("-", c, d))},
		{"a * b + c * d", both("+", both("*", a, b), both("*", c, d))},
		{"a < b", both("<", a, b)},
		{"a < b > c", both(">", both("<", a, b), c)},
		{"a > (b < c)", both(">", a, both("<", b, c))},
		{"a + b < c * d", both("<", both("+", a, b), both("*", c, d))},
		{"a < b + c > d", both(">", both("<", a, both("+", b, c)), d)},
		{"a + (b < c)", both("+", a, both("<", b, c))},
		{"((a))", a},
		{"(((a)+((b))))", both("+", a, b)},
		{"sum(a) + sum(b)", both("+", group("sum", a), group("sum", b))},
		{"rate(a+b)", call("rate", both("+", a, b))},
	} {
		parses(t, x.text, x.want)
	}
}

func TestNumbers(t *testing.T) { // tokens
	for s, want := range map[string]float64{
		"0": 0, "1": 1, "007": 7, "1.5": 1.5, ".5": 0.5, "5.": 5, "1e3": 1000, "1E3": 1000, "1e+3": 1000, "1e-3": 0.001, ".5e1": 5, "5.e1": 50,
		"1.7976931348623157e+308": math.MaxFloat64, "5e-324": math.SmallestNonzeroFloat64, "1e-400": 0, "0e999": 0, "1e0005": 1e5,
		strings.Repeat("0", 63) + "7": 7, "0.1": 0.1, "1e" + strings.Repeat("0", 61) + "1": 10,
	} {
		parses(t, s, num(want))
		parses(t, s+" * a", both("*", num(want), named("a")))
	}
	parses(t, "2-1", both("-", num(2), num(1)))
	parses(t, "2+1", both("+", num(2), num(1)))
	parses(t, "1e2-3", both("-", num(100), num(3)))
	for s, at := range map[string]int{
		".": 0, "..": 0, "1..2": 0, "1.2.3": 0, "1e999": 0, "1.e999": 0, "2e308": 0, strings.Repeat("0", 65): 0, "a + 1e999": 4, "a + .": 4, ".e5": 0,
		"1e": 1, "1e2e": 3, "1e+": 1, "1e-": 1, "1ee5": 1, "1e+-5": 1, "1e +5": 1, "1 e5": 2, "1x": 1, "1_0": 1, "0x10": 1, "1e5x": 3, "1e5.5": 3, "1.5 .5": 4, "1e5e5": 3, "5m": 1,
		"-1": 0, "+1": 0, "1 2": 2, "a - -1": 4, "Inf + 1 2": 8, "1,2": 1, "1{}": 1, "1[5m]": 1, "1 offset 5m": 2,
	} {
		refuses(t, s, api.ErrQuery, at)
	}
	parses(t, "Inf + NaN", both("+", named("Inf"), named("NaN")))
	parses(t, "e5", named("e5"))
	parses(t, "a -1", both("-", named("a"), num(1)))
}

func TestSelects(t *testing.T) { // the words, tokens
	name64 := strings.Repeat("n", api.MaxName)
	for _, x := range []struct {
		text string
		want api.Expr
	}{
		{"a", named("a")},
		{"_", named("_")},
		{"A_9", named("A_9")},
		{"__name__", named("__name__")},
		{"Sum", named("Sum")},
		{"summ", named("summ")},
		{"rate_", named("rate_")},
		{"last", named("last")},
		{"offsets", named("offsets")},
		{name64, named(name64)},
		{"{}", pick()},
		{"a{}", named("a")},
		{"a {}", named("a")},
		{"a\t\n {b=\"c\"}", named("a", is("b", "c"))},
		{`{a="1",a="2"}`, pick(is("a", "1"), is("a", "2"))},
		{`a{__name__="b"}`, named("a", is("__name__", "b"))},
		{`{__name__="a"}`, named("a")},
		{`{__name__="rate"}`, named("rate")},
		{`{__name__="a b"}`, named("a b")},
		{`{__name__!="a"}`, pick(api.Match{Kind: api.MatchNot, Name: "__name__", Value: "a"})},
		{`{b=~"x*",c!~"?",d!="",e=""}`, pick(api.Match{Kind: api.MatchGlob, Name: "b", Value: "x*"}, api.Match{Kind: api.MatchElse, Name: "c", Value: "?"}, api.Match{Kind: api.MatchNot, Name: "d"}, is("e", ""))},
		{`a{b="}"}`, named("a", is("b", "}"))},
		{`a{b="\"}"}`, named("a", is("b", `"}`))},
		{`a{b="\\"}`, named("a", is("b", `\`))},
		{`a{b="\n{([,+"}`, named("a", is("b", "\n{([,+"))},
		{`a{b="é"}`, named("a", is("b", "é"))},
		{"a[5m]", over(named("a"), 5*minute)},
		{"a [5m]", over(named("a"), 5*minute)},
		{"a[1ns]", over(named("a"), 1)},
		{"a[60m]", over(named("a"), 60*minute)},
		{"a[1h1ns]", over(named("a"), 60*minute+1)},
		{"{}[5m]", over(pick(), 5*minute)},
		{`a{b="c"}[5m]`, over(named("a", is("b", "c")), 5*minute)},
		{"a offset 5m", sooner(named("a"), 5*minute)},
		{"a offset 0s", named("a")},
		{"a\toffset\n \t1h1ns", sooner(named("a"), 60*minute+1)},
		{"{}offset 5m", sooner(pick(), 5*minute)},
		{"a[5m]offset 5m", sooner(over(named("a"), 5*minute), 5*minute)},
		{"a{}[5m] offset 1us + b", both("+", sooner(over(named("a"), 5*minute), 1000), named("b"))},
		{"a offset 5m+b", both("+", sooner(named("a"), 5*minute), named("b"))},
		{"(a offset 5m)", sooner(named("a"), 5*minute)},
		{"a[2305843009213693952ns]", over(named("a"), api.MaxAt)},
		{"a offset 2305843009213693952ns", sooner(named("a"), api.MaxAt)},
	} {
		parses(t, x.text, x.want)
		parses(t, " \t\n"+x.text+"\n\t ", x.want)
	}
	for s, at := range map[string]int{
		name64 + "n": 0, "a + " + name64 + "n{}": 4, "é": 0, "a é": 2, "a\xff": 1, "a\x00": 1, "a\r": 1, "a b": 2, "a{} b": 4, "a{}{}": 3, "{}a": 2, "a a{}": 2,
		"{": 0, "a{": 1, "a {": 2, "a{b": 1, "a{b=\"}": 1, `a{b="}"`: 1, `a{b="\"}`: 1, "a{b}": 1, "a{b=}": 1, "a{b=c}": 1, `a{b="c",}`: 1, `a{ b="c"}`: 1, `a{b="c" }`: 1, `a{b == "c"}`: 1, `a{b="\q"}`: 1, "a{b=\"\xff\"}": 1, "a{b=\"\n\"}": 1, `a{1="c"}`: 1,
		"}": 0, "a}": 1, "a]": 1, "]": 0, "a[": 1, "a[5m": 1, "a[]": 1, "a[0s]": 1, "a[5]": 1, "a[5x]": 1, "a[ 5m]": 1, "a[5m ]": 1, "a[1m1h]": 1, "a[-5m]": 1, "a[2305843009213693953ns]": 1, "a[[5m]]": 1, "a[5m][5m]": 5, "[5m]": 0, "(a)[5m]": 3, "sum(a)[5m]": 6,
		"a offset": 8, "a offset ": 9, "a offset\t\n": 10, "a offset 5": 9, "a offset 5x": 9, "a offset m": 9, "a offset 5M": 9, "a offset -5m": 9, "a offset 5m3": 9, "a offset 1s1m": 9, "a offset + b": 9, "a offset (5m)": 9, "a offset [5m]": 9, "a offset 2305843009213693953ns": 9, "a offset \xff": 9,
		"a offset 5mA": 11, "a offset 5m_": 11, "a offset 5m b": 12, "a offset 5m[5m]": 11, "a offset 5m offset 5m": 12, "a offset5m": 2, "a offset a": 9, "a offset 5m{}": 11, "a offset 5m.": 11,
		"offset": 0, "offset 5m": 0, "by": 0, "without": 0, "a by": 2, "(a) offset 5m": 4, "sum(a) offset 5m": 7,
		"a=b": 1, "a == b": 2, "a % b": 2, "a # b": 2, "a;": 1, "'a'": 0, "\"a\"": 0, "a != b": 2, "a <= b": 3, "a >= b": 3,
	} {
		refuses(t, s, api.ErrQuery, at)
	}
}

func TestCalls(t *testing.T) { // the words
	a := named("a")
	for _, word := range functionWords {
		parses(t, word+"(a[5m])", call(word, over(a, 5*minute)))
		parses(t, word+" ( a [5m] )", call(word, over(a, 5*minute)))
		parses(t, word+"("+word+"(1))", call(word, call(word, num(1))))
		refuses(t, word, api.ErrQuery, len(word))
		refuses(t, word+" ", api.ErrQuery, len(word)+1)
		refuses(t, word+" a", api.ErrQuery, len(word)+1)
		refuses(t, word+"()", api.ErrQuery, len(word)+1)
		refuses(t, word+"(a", api.ErrQuery, len(word)+2)
		refuses(t, word+"(a,b)", api.ErrQuery, len(word)+2)
		refuses(t, word+"{}", api.ErrQuery, len(word))
		refuses(t, word+"[5m]", api.ErrQuery, len(word))
		refuses(t, word+" by (x) (a)", api.ErrQuery, len(word)+1)
		refuses(t, word+"(a) b", api.ErrQuery, len(word)+4)
	}
}

func TestGroups(t *testing.T) { // the words
	a := named("a")
	for _, word := range takingWords {
		n := len(word)
		parses(t, word+"(a)", group(word, a))
		parses(t, word+"\n(\na\n)\n", group(word, a))
		parses(t, word+" by (x) (a)", by(word, a, "x"))
		parses(t, word+" without (x) (a)", without(word, a, "x"))
		parses(t, word+" by(x)(a)", by(word, a, "x"))
		parses(t, word+" by () (a)", by(word, a))
		parses(t, word+" without ( ) (a)", without(word, a))
		parses(t, word+" by (b,a,c,a,b) (a)", by(word, a, "a", "b", "c"))
		parses(t, word+" by ( b , a ) (a)", by(word, a, "a", "b"))
		parses(t, word+" by (by,sum,rate,offset,without,__name__,A) (a)", by(word, a, "A", "__name__", "by", "offset", "rate", "sum", "without"))
		parses(t, word+" by (x) ("+word+"(a))", by(word, group(word, a), "x"))
		refuses(t, word, api.ErrQuery, n)
		refuses(t, word+" a", api.ErrQuery, n+1)
		refuses(t, word+" offset 5m", api.ErrQuery, n+1)
		refuses(t, word+" by", api.ErrQuery, n+3)
		refuses(t, word+" by a", api.ErrQuery, n+4)
		refuses(t, word+" by (", api.ErrQuery, n+5)
		refuses(t, word+" by (x", api.ErrQuery, n+6)
		refuses(t, word+" by (x)", api.ErrQuery, n+7)
		refuses(t, word+" by (x) a", api.ErrQuery, n+8)
		refuses(t, word+" by (x,) (a)", api.ErrQuery, n+7)
		refuses(t, word+" by (,x) (a)", api.ErrQuery, n+5)
		refuses(t, word+" by (x y) (a)", api.ErrQuery, n+7)
		refuses(t, word+" by (1) (a)", api.ErrQuery, n+5)
		refuses(t, word+" by (x,1) (a)", api.ErrQuery, n+7)
		refuses(t, word+" by ({}) (a)", api.ErrQuery, n+5)
		refuses(t, word+" by ((x)) (a)", api.ErrQuery, n+5)
		refuses(t, word+" by (x) by (y) (a)", api.ErrQuery, n+8)
		refuses(t, word+" by x (a)", api.ErrQuery, n+4)
		refuses(t, word+" By (x) (a)", api.ErrQuery, n+1)
		refuses(t, word+"(a) by (x)", api.ErrQuery, n+4)
		refuses(t, word+"()", api.ErrQuery, n+1)
		refuses(t, word+"{}", api.ErrQuery, n)
		long := strings.Repeat("n", api.MaxName)
		parses(t, word+" by ("+long+") (a)", by(word, a, long))
		refuses(t, word+" by (x,"+long+"n) (a)", api.ErrQuery, n+7)
	}
}

func TestEarlyEnds(t *testing.T) { // 25.1: at the length, if it only ends too early
	for _, s := range []string{"", " ", "\t\n ", "a +", "a + ", "a <", "(", "((", "(a", "( a ", "a + (b", "rate", "rate(", "rate(a", "rate(a[5m]", "sum by", "sum by (", "sum by (x", "sum by (x,", "sum by (x,y", "sum by ()", "sum by () (", "a offset", "a * b *"} {
		refuses(t, s, api.ErrQuery, len(s))
		refuses(t, s+"  ", api.ErrQuery, len(s)+2)
	}
	for s, at := range map[string]int{")": 0, "()": 1, "(a))": 3, "a)": 1, "a,": 1, ",": 0, "(a,b)": 2, "*": 0, "a * * b": 4, "a + )": 4, "a <> b": 3, "(a b": 3} {
		refuses(t, s, api.ErrQuery, at)
	}
}

// longest is a select of so many bytes as text, of matchers that are as long as may be, but for the last one.
func longest(bytes int) api.Expr {
	var l []api.Match
	for left := bytes - len("{}"); left > 0; left -= len(",") {
		n := slices.Min([]int{left, api.MaxName + len(`=""`) + api.MaxValue})
		if rest := left - n; rest > 0 && rest < 10 { // what is left must be a matcher, too
			n -= 10
		}
		name := slices.Min([]int{api.MaxName, n - len(`=""`)})
		l = append(l, is(strings.Repeat("n", name), strings.Repeat("v", n-len(`=""`)-name)))
		left -= n
	}
	return pick(l...)
}

func TestLongTexts(t *testing.T) { // 25.1, 25.2: ErrLong, ErrExpr
	parses(t, strings.Repeat(" ", api.MaxQuery-1)+"a", named("a"))
	refuses(t, strings.Repeat(" ", api.MaxQuery)+"a", api.ErrLong, 0)
	refuses(t, strings.Repeat(" ", api.MaxQuery), api.ErrQuery, api.MaxQuery)
	refuses(t, strings.Repeat("?", api.MaxQuery+1), api.ErrLong, 0)
	refuses(t, strings.Repeat("?", 1<<20), api.ErrLong, 0)
	for _, n := range []int{10, 400, 1000, api.MaxQuery - 1, api.MaxQuery} {
		e := longest(n)
		if text, why := query.Print(e); len(text) != n || why != api.OK {
			t.Fatalf("the test's text of %d bytes has %d, error %d", n, len(text), why)
		}
		parses(t, text(t, e), e)
	}
	isWrong(t, "a select that is too long", longest(api.MaxQuery+1))
	isWrong(t, "one that is far too long", longest(2*api.MaxQuery))
	// a text that may be read, of a question whose own has blanks or parentheses more
	fits := both("+", longest(api.MaxQuery-len(" + 1")), num(1))
	parses(t, text(t, fits), fits)
	parses(t, strings.ReplaceAll(text(t, fits), " ", ""), fits)
	beyond := text(t, longest(api.MaxQuery-len(" + 1")+1)) + "+1"
	isWrong(t, "a sum that is too long", both("+", longest(api.MaxQuery-len(" + 1")+1), num(1)))
	refuses(t, beyond, api.ErrExpr, 0)
	refuses(t, beyond+" ", api.ErrExpr, 0)
	refuses(t, beyond+"  ", api.ErrLong, 0)
	refuses(t, beyond+"+", api.ErrQuery, len(beyond)+1) // a fault goes ahead
	three := text(t, longest(api.MaxQuery-len("( + 1) + 1")))
	parses(t, three+" + 1 + 1", both("+", both("+", parsed(t, three), num(1)), num(1)))
	three = text(t, longest(api.MaxQuery-len("( + 1) + 1")+1))
	refuses(t, three+" + 1 + 1", api.ErrExpr, 0)
	ten := text(t, longest(api.MaxQuery-len(" + 1e+06"))) // a number may be written longer than it was
	parses(t, ten+" + 1e6", both("+", parsed(t, ten), num(1e6)))
	ten = text(t, longest(api.MaxQuery-len(" + 1e+06")+1))
	refuses(t, ten+" + 1e6", api.ErrExpr, 0)
}

// text is a right question's.
func text(t *testing.T, e api.Expr) string {
	t.Helper()
	s, why := query.Print(e)
	if why != api.OK {
		t.Fatalf("Print: error %d", why)
	}
	return s
}

func TestDeepTexts(t *testing.T) { // 25.1, 25.2: ErrMany, ErrExpr
	const most = api.MaxDeep
	parses(t, deep(most, "", "a"), named("a"))
	refuses(t, deep(most+1, "", "a"), api.ErrMany, most)
	refuses(t, strings.Repeat("(", most), api.ErrQuery, most)
	refuses(t, strings.Repeat("(", most+1), api.ErrMany, most)
	refuses(t, strings.Repeat("(", api.MaxQuery), api.ErrMany, most)
	refuses(t, strings.Repeat("(", most)+"a(", api.ErrQuery, most+1) // a ( with which no question goes on
	refuses(t, strings.Repeat("(", most)+")(", api.ErrQuery, most)
	refuses(t, "a("+strings.Repeat("(", most), api.ErrQuery, 1)
	refuses(t, strings.Repeat("(", most)+"rate (", api.ErrMany, most+5)
	refuses(t, strings.Repeat("(", most)+"rate a", api.ErrQuery, most+5)
	refuses(t, strings.Repeat("(", most)+"sum by (", api.ErrMany, most+7)
	refuses(t, strings.Repeat("(", most)+"sum without (x) (a)", api.ErrMany, most+12)
	refuses(t, strings.Repeat("(", most)+"sum by x", api.ErrQuery, most+7)
	refuses(t, strings.Repeat("(", most-1)+"sum by (x) ((", api.ErrMany, most+11)
	parses(t, deep(most-1, "", "sum by (x) (a)"), by("sum", named("a"), "x"))
	parses(t, deep(most, "", `a{b="((("}`), named("a", is("b", "((("))) // these are none
	parses(t, deep(most, "", "a")+"+"+deep(most, "", "b"), both("+", named("a"), named("b")))
	parses(t, deep(most-2, "", "(a)+((b))"), both("+", named("a"), named("b")))
	refuses(t, deep(most-2, "", "(a)+((b))+(((c)))"), api.ErrMany, most-2+len("(a)+((b))+(("))
	for ahead, place := range map[string]int{"rate": 4, "sum": 3, "sum by (x) ": 7, "sum without () ": 12} {
		s := deep(most, ahead, "a")
		e := parsed(t, s)
		writes(t, e, s)
		refuses(t, deep(most+1, ahead, "a"), api.ErrMany, most*(len(ahead)+1)+place)
		e = api.Expr{Kind: e.Kind, Op: e.Op, Group: e.Group, Names: e.Names, Kids: []api.Expr{e}}
		isWrong(t, "one that is too deep", e)
	}
	left, right := num(1), num(1)
	for n := 1; n <= most+1; n++ { // signs one behind the other come to parentheses within one another
		left, right = both("+", left, num(1)), both("-", num(1), right)
		writes(t, left, strings.Repeat("(", n-1)+"1 + 1"+strings.Repeat(") + 1", n-1))
		writes(t, right, strings.Repeat("1 - (", n-1)+"1 - 1"+strings.Repeat(")", n-1))
		parses(t, strings.Repeat("1+", n)+"1", left)
	}
	isWrong(t, "a sum that is too deep", both("+", left, num(1)))
	isWrong(t, "one that is too deep at the other side", both("+", num(1), right))
	refuses(t, strings.Repeat("1+", most+2)+"1", api.ErrExpr, 0)
	refuses(t, strings.Repeat("1*", api.MaxQuery/2-1)+"1", api.ErrExpr, 0)
}

func TestManyMatchers(t *testing.T) { // 25.1, 25.2
	set := func(n int) string {
		return "{" + strings.TrimSuffix(strings.Repeat(`a="",`, n), ",") + "}"
	}
	list := slices.Repeat([]api.Match{is("a", "")}, api.MaxLabels)
	writes(t, pick(list...), set(api.MaxLabels))
	refuses(t, set(api.MaxLabels+1), api.ErrQuery, 0)
	refuses(t, "1 + "+set(api.MaxLabels+1), api.ErrQuery, 4)
	writes(t, named("x", list[1:]...), "x"+set(api.MaxLabels-1))
	refuses(t, "x"+set(api.MaxLabels), api.ErrQuery, 1) // the word counts
	refuses(t, "x  "+set(api.MaxLabels), api.ErrQuery, 3)
	refuses(t, "x"+set(api.MaxLabels)+"?", api.ErrQuery, 1)
	writes(t, pick(append([]api.Match{is("__name__", "rate")}, list[1:]...)...), `{__name__="rate",`+set(api.MaxLabels - 1)[1:])
	isWrong(t, "too many matchers", pick(append(list, is("a", ""))...))
}

func TestManyNames(t *testing.T) { // 25.1, 25.2
	var names []string
	for i := range api.MaxLabels + 1 {
		names = append(names, "n"+strconv.Itoa(100+i))
	}
	all := names[:api.MaxLabels]
	for _, word := range []string{"by", "without"} {
		kind := map[string]func(string, api.Expr, ...string) api.Expr{"by": by, "without": without}[word]
		begin := "sum " + word + " ("
		writes(t, kind("sum", named("a"), all...), begin+strings.Join(all, ",")+") (a)")
		isWrong(t, "too many names", kind("sum", named("a"), names...))
		refuses(t, begin+strings.Join(names, ",")+") (a)", api.ErrQuery, len(begin)+len("n100,")*api.MaxLabels)
		refuses(t, begin+strings.Join(names, " , ")+"?", api.ErrQuery, len(begin)+len("n100 , ")*api.MaxLabels)
		refuses(t, begin+strings.Repeat("x,", api.MaxLabels)+"x) (a)", api.ErrQuery, len(begin)+len("x,")*api.MaxLabels) // as they stand
		refuses(t, begin+strings.Repeat("x,", api.MaxLabels)+"?) (a)", api.ErrQuery, len(begin)+len("x,")*api.MaxLabels)
		refuses(t, begin+strings.Repeat("x,", api.MaxLabels), api.ErrQuery, len(begin)+len("x,")*api.MaxLabels)
		parses(t, begin+strings.Repeat("x,", api.MaxLabels-1)+"x) (a)", kind("sum", named("a"), "x"))
		reversed := slices.Clone(all)
		slices.Reverse(reversed)
		parses(t, begin+strings.Join(reversed, ",")+") (a)", kind("sum", named("a"), all...))
	}
}

func TestReadMemory(t *testing.T) { // 25.6: what is read is new memory
	s := strings.Clone(`sum by (bb, cc) (aaaa{dd="ee"}) + rate(ff[5m])`)
	from := uintptr(unsafe.Pointer(unsafe.StringData(s)))
	e := parsed(t, s)
	again := parsed(t, s)
	var walk func(api.Expr)
	walk = func(e api.Expr) {
		texts := slices.Concat([]string{e.Op}, e.Names)
		for _, m := range e.Match {
			texts = append(texts, m.Name, m.Value)
		}
		for _, x := range texts {
			if at := uintptr(unsafe.Pointer(unsafe.StringData(x))); x != "" && at >= from && at < from+uintptr(len(s)) {
				t.Errorf("%q has the memory of the text", x)
			}
		}
		for i := range e.Kids {
			walk(e.Kids[i])
		}
		clear(e.Names[:cap(e.Names)])
		clear(e.Match[:cap(e.Match)])
		clear(e.Kids[:cap(e.Kids)])
	}
	walk(e)
	if text, why := query.Print(again); text != `sum by (bb,cc) (aaaa{dd="ee"}) + rate(ff[5m])` || why != api.OK {
		t.Errorf("the second answer was changed: %q, error %d", text, why)
	}
	parses(t, s, again)
}
