package query_test

import (
	"math/rand"
	"strconv"
	"strings"
	"testing"

	"abacus/api"
	"abacus/query"
)

// someMatch is a matcher, often of few names and values.
func someMatch(r *rand.Rand) api.Match {
	return api.Match{
		Kind:  api.MatchKind(1 + r.Intn(4)),
		Name:  []string{"__name__", "a", "b", "x1"}[r.Intn(4)],
		Value: []string{"", "a", "rate", "1", "é\"}", "\\\n", "*", "a b", "by"}[r.Intn(9)],
	}
}

func someNames(r *rand.Rand) []string {
	var l []string
	for _, name := range []string{"A", "__name__", "a", "by", "rate", "x"} {
		if r.Intn(3) == 0 {
			l = append(l, name)
		}
	}
	return l
}

func someSpan(r *rand.Rand) int64 {
	return []int64{0, 1, 1000, sec, 5 * minute, 90*minute + 1, api.MaxAt, 1 + r.Int63n(api.MaxAt)}[r.Intn(8)]
}

func someNumber(r *rand.Rand) float64 {
	switch r.Intn(4) {
	case 0:
		return float64(r.Intn(1000))
	case 1:
		return r.Float64()
	case 2:
		return r.ExpFloat64() * 1e100
	}
	return []float64{0, 1e6, 1e-5, 5e-324, 1.7976931348623157e308}[r.Intn(5)]
}

// someQuestion is a right question, of parts that need not go together.
func someQuestion(r *rand.Rand, deep int) api.Expr {
	n := r.Intn(8)
	if deep == 0 {
		n = r.Intn(3)
	}
	switch n {
	case 0:
		return num(someNumber(r))
	case 1, 2:
		e := pick()
		if r.Intn(3) > 0 {
			e = named([]string{"a", "b", "rate", "1a", "Sum", "by"}[r.Intn(6)])
		}
		for range r.Intn(3) {
			e.Match = append(e.Match, someMatch(r))
		}
		return sooner(over(e, someSpan(r)*int64(r.Intn(2))), someSpan(r)*int64(r.Intn(2)))
	case 3:
		return call(functionWords[r.Intn(len(functionWords))], someQuestion(r, deep-1))
	case 4, 5:
		e := group(takingWords[r.Intn(len(takingWords))], someQuestion(r, deep-1))
		if e.Group = api.GroupKind(r.Intn(3)); e.Group != api.GroupAll {
			e.Names = someNames(r)
		}
		return e
	}
	return both(allSigns[r.Intn(len(allSigns))], someQuestion(r, deep-1), someQuestion(r, deep-1))
}

// spaced is a question's text with blanks around its tokens.
func spaced(r *rand.Rand, s string) string {
	blanks := func() string {
		return []string{"", "", " ", "\t", "\n", " \n\t "}[r.Intn(6)]
	}
	text := blanks()
	ahead := ""
	for s != "" {
		if trimmed := strings.TrimLeft(s, " "); trimmed != s {
			text += " " + blanks()
			s = trimmed
			continue
		}
		found := ""
		for _, x := range tokens {
			if f := x.form.FindString(s); f != "" {
				found = f
			}
		}
		if ahead == "offset" {
			found = spanLetters.FindString(s)
		}
		text += found + blanks()
		s, ahead = s[len(found):], found
	}
	return text
}

func TestThereAndBack(t *testing.T) { // 25.7, 25.2
	r := rand.New(rand.NewSource(25))
	for range 20000 {
		e := someQuestion(r, r.Intn(6))
		want, _ := written(e)
		if len(want) > api.MaxQuery {
			isWrong(t, "a question that is too long", e)
			continue
		}
		writes(t, e, want)
		if s := spaced(r, want); len(s) <= api.MaxQuery {
			parses(t, s, e)
		}
		if t.Failed() {
			return
		}
	}
}

// pieces are what texts are put together of.
var pieces = []string{
	"a", "b", "rate", "increase", "sum_over_time", "sum", "max", "by", "without", "offset", "x1", "_",
	"1", "0", "2.5", ".", "1e5", "1e", "e5", "1e999", "..", "5m", "1h1s", "0s", "1s1m",
	"+", "-", "*", "/", "<", ">", "(", ")", "(", ")", ",", "{", "}", "[", "]", "[5m]", "[0s]", "[5]", "{}", `{a="b"}`, `{a="}"}`, `{a="\"}`, `{a}`, `{__name__="c"}`,
	" ", " ", "\t", "\n", "é", "\xff", "#", "=", `"`, `\`,
	"sum by (a) (", "rate(a[5m])", "offset 5m", "sum without (b,a) (", "a offset 1s",
}

// holds holds what a text is read as against the second telling.
func holds(t *testing.T, s string) {
	t.Helper()
	e, why, at := query.Parse(s)
	want, wrong, place := read(s)
	if why != wrong || at != place || !isSame(e, want) {
		t.Errorf("Parse(%q): %v, error %d at %d, want %v, error %d at %d", s, e, why, at, want, wrong, place)
	}
	if why == api.OK {
		own, _ := written(e)
		writes(t, e, own)
	}
}

func TestTextsOfAny(t *testing.T) { // 25.1, P1
	r := rand.New(rand.NewSource(1))
	for n := 0; n < 200000 && !t.Failed(); n++ {
		var s strings.Builder
		for range 1 + r.Intn(10) {
			s.WriteString(pieces[r.Intn(len(pieces))])
		}
		holds(t, s.String())
	}
}

func TestTextsThatAreNearlyRight(t *testing.T) { // 25.1
	r := rand.New(rand.NewSource(2))
	for n := 0; n < 60000 && !t.Failed(); n++ {
		e := someQuestion(r, r.Intn(5))
		s, _ := written(e)
		s = spaced(r, s)
		i := r.Intn(len(s) + 1)
		switch r.Intn(4) {
		case 0:
			s = s[:i]
		case 1:
			s = s[:i] + pieces[r.Intn(len(pieces))] + s[i:]
		case 2:
			s = s[:i] + string([]byte{byte(r.Intn(256))}) + s[i:]
		case 3:
			s = s[:i] + s[min(len(s), i+1+r.Intn(3)):]
		}
		holds(t, s)
	}
}

func TestTextsOfAnyBytes(t *testing.T) { // 25.1, P1
	r := rand.New(rand.NewSource(3))
	alphabet := "ab19.e+-*/<>()[]{},=\"\\ \n_\xff"
	for n := 0; n < 200000 && !t.Failed(); n++ {
		b := make([]byte, r.Intn(12))
		for i := range b {
			b[i] = alphabet[r.Intn(len(alphabet))]
		}
		holds(t, string(b))
	}
	for c := range 256 {
		for _, x := range []string{"", "a", "a ", "1", "(", "sum", "sum by (", "a{", "a offset", "a offset 5"} {
			holds(t, x+string([]byte{byte(c)}))
			holds(t, x+string([]byte{byte(c)})+"a")
		}
	}
}

func TestTextsThatAreDeep(t *testing.T) { // 25.1
	r := rand.New(rand.NewSource(4))
	for range 2000 {
		var s strings.Builder
		for range 55 + r.Intn(15) {
			s.WriteString([]string{"(", "(", "rate(", "sum(", "sum by (a) (", "1+(", "a*(", "(1)+("}[r.Intn(8)])
		}
		s.WriteString([]string{"", "a", "1+1", "(", "((", "rate", "sum by", "sum by ("}[r.Intn(8)])
		s.WriteString(strings.Repeat(")", 50+r.Intn(20)))
		holds(t, s.String())
	}
	for n := 55; n < 75; n++ {
		for _, sign := range allSigns {
			holds(t, strings.Repeat("a"+sign, n)+"a")
			holds(t, "("+strings.Repeat("a"+sign, n)+"a)")
		}
		holds(t, "rate("+strings.Repeat("1*", n)+"1)+"+strconv.Itoa(n))
	}
}
