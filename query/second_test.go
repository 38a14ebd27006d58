package query_test

import (
	"regexp"
	"slices"
	"strconv"
	"strings"

	"abacus/api"
	"abacus/labels"
	"abacus/times"
)

// What follows reads and writes questions a second time, in other ways than the program: tokens by expressions, parts by a stack.

var tokens = []struct {
	kind string
	form *regexp.Regexp
}{
	{"word", regexp.MustCompile(`^[A-Za-z_][A-Za-z_0-9]*`)},
	{"number", regexp.MustCompile(`^[0-9.]+([eE][+-]?[0-9]+)?`)},
	{"matchers", regexp.MustCompile(`(?s)^\{([^"}]|"([^"\\]|\\.)*")*\}`)},
	{"span", regexp.MustCompile(`^\[[^\]]*\]`)},
	{"sign", regexp.MustCompile(`^[-+*/<>]`)},
	{"(", regexp.MustCompile(`^\(`)},
	{")", regexp.MustCompile(`^\)`)},
	{",", regexp.MustCompile(`^,`)},
}

var spanLetters = regexp.MustCompile(`^[a-z0-9]*`)

func binding(sign string) int {
	return map[string]int{"<": 1, ">": 1, "+": 2, "-": 2, "*": 3, "/": 3}[sign]
}

// frame is a question that has begun, up to its parenthesis: parts that wait, signs that wait, and what is made of it at the end.
type frame struct {
	parts []api.Expr
	signs []string
	wrap  api.Expr // a call or a group, if it has a kind
}

// join takes parts together, as long as the last sign binds as much at least.
func (f *frame) join(least int) {
	for len(f.signs) > 0 && binding(f.signs[len(f.signs)-1]) >= least {
		n := len(f.parts)
		f.parts = append(f.parts[:n-2], both(f.signs[len(f.signs)-1], f.parts[n-2], f.parts[n-1]))
		f.signs = f.signs[:len(f.signs)-1]
	}
}

// machine reads a text, token by token; what is awaited stands in its state.
type machine struct {
	state  string
	frames []*frame
	open   int
	wrap   api.Expr // the call or group whose question comes
	names  []string
	pick   api.Expr // the select that has begun
}

func (m *machine) top() *frame {
	return m.frames[len(m.frames)-1]
}

func (m *machine) part(e api.Expr) {
	m.top().parts = append(m.top().parts, e)
	m.state = "behind a part"
}

// ends ends a select that has begun.
func (m *machine) ends() {
	if strings.HasPrefix(m.state, "select") {
		m.part(m.pick)
	}
}

func isWordOfLanguage(s string) bool {
	return slices.Contains(functionWords, s) || slices.Contains(takingWords, s) || slices.Contains(otherWords, s)
}

// take takes a token; false, if no question goes on with it.
func (m *machine) take(kind, s string) bool {
	switch m.state {
	case "a part":
		return m.takePart(kind, s)
	case "select: {", "select: [", "select: offset":
		if m.takeSelect(kind, s) {
			return true
		}
		m.ends()
		return m.take(kind, s)
	case "behind a part":
		switch kind {
		case "sign":
			m.top().join(binding(s))
			m.top().signs = append(m.top().signs, s)
			m.state = "a part"
			return true
		case ")":
			return m.shut()
		}
	case "by":
		if kind == "word" && (s == "by" || s == "without") {
			m.wrap.Group = map[string]api.GroupKind{"by": api.GroupBy, "without": api.GroupWithout}[s]
			m.state = "names"
			return true
		}
		fallthrough
	case "(":
		if kind == "(" {
			m.open++
			m.frames = append(m.frames, &frame{wrap: m.wrap})
			m.state = "a part"
			return true
		}
	case "names":
		if kind == "(" {
			m.open++
			m.names = nil
			m.state = "the first name"
			return true
		}
	case "the first name", "a name":
		if kind == ")" && m.state == "the first name" {
			return m.named()
		}
		if kind == "word" && labels.Name(s) && len(m.names) < api.MaxLabels {
			m.names = append(m.names, s)
			m.state = "behind a name"
			return true
		}
	case "behind a name":
		if kind == "," {
			m.state = "a name"
			return true
		}
		if kind == ")" {
			return m.named()
		}
	}
	return false
}

func (m *machine) named() bool {
	m.open--
	seen := map[string]bool{}
	for _, name := range m.names {
		seen[name] = true
	}
	m.wrap.Names = nil
	for name := range seen {
		m.wrap.Names = append(m.wrap.Names, name)
	}
	slices.Sort(m.wrap.Names)
	m.state = "("
	return true
}

func (m *machine) takePart(kind, s string) bool {
	switch kind {
	case "number":
		x, err := strconv.ParseFloat(s, 64)
		if err != nil || len(s) > 64 {
			return false
		}
		m.part(num(x))
		return true
	case "(":
		m.wrap, m.state = api.Expr{}, "("
		return m.take(kind, s)
	case "matchers":
		m.pick, m.state = pick(), "select: {"
		return m.take(kind, s)
	case "word":
		switch {
		case slices.Contains(functionWords, s):
			m.wrap, m.state = api.Expr{Kind: api.ExprCall, Op: s}, "("
			return true
		case slices.Contains(takingWords, s):
			m.wrap, m.state = api.Expr{Kind: api.ExprGroup, Op: s}, "by"
			return true
		case !isWordOfLanguage(s) && labels.Name(s):
			m.pick, m.state = named(s), "select: {"
			return true
		}
	}
	return false
}

func (m *machine) takeSelect(kind, s string) bool {
	switch {
	case kind == "matchers" && m.state == "select: {":
		l, why, _ := labels.ParseMatch(s)
		if why != api.OK || len(l)+len(m.pick.Match) > api.MaxLabels {
			m.state = "broken"
			return false
		}
		m.pick.Match = append(m.pick.Match, l...)
		m.state = "select: ["
		return true
	case kind == "span" && m.state != "select: offset":
		d, why, _ := times.ParseSpan(s[1 : len(s)-1])
		if why != api.OK || d == 0 {
			m.state = "broken"
			return false
		}
		m.pick.Span = d
		m.state = "select: offset"
		return true
	case kind == "word" && s == "offset":
		m.state = "an offset"
		return true
	}
	return false
}

// shut takes a parenthesis that closes a question.
func (m *machine) shut() bool {
	if m.open == 0 {
		return false
	}
	f := m.top()
	f.join(0)
	m.frames = m.frames[:len(m.frames)-1]
	m.open--
	e := f.parts[0]
	if f.wrap.Kind != api.ExprNone {
		wrap := f.wrap
		wrap.Kids = []api.Expr{e}
		e = wrap
	}
	m.part(e)
	return true
}

// read is what query.Parse is to answer.
func read(s string) (api.Expr, api.Errno, int) {
	if len(s) > api.MaxQuery {
		return api.Expr{}, api.ErrLong, 0
	}
	m := &machine{state: "a part", frames: []*frame{{}}}
	rest := strings.TrimLeft(s, " \t\n")
	for {
		at := len(s) - len(rest)
		if m.state == "an offset" {
			text := spanLetters.FindString(rest)
			d, why, _ := times.ParseSpan(text)
			if why != api.OK {
				return api.Expr{}, api.ErrQuery, at
			}
			m.pick.Offset = d
			m.part(m.pick)
			rest = strings.TrimLeft(rest[len(text):], " \t\n")
			continue
		}
		if rest == "" {
			break
		}
		kind, text := "", ""
		for _, x := range tokens {
			if found := x.form.FindString(rest); found != "" {
				kind, text = x.kind, found
			}
		}
		if !m.take(kind, text) {
			return api.Expr{}, api.ErrQuery, at
		}
		if m.open > api.MaxDeep {
			return api.Expr{}, api.ErrMany, at
		}
		rest = strings.TrimLeft(rest[len(text):], " \t\n")
	}
	m.ends()
	if m.state != "behind a part" || m.open > 0 {
		return api.Expr{}, api.ErrQuery, len(s)
	}
	m.top().join(0)
	e := m.top().parts[0]
	if own, most := written(e); len(own) > api.MaxQuery || most > api.MaxDeep {
		return api.Expr{}, api.ErrExpr, 0
	}
	return e, api.OK, 0
}

// written is a right question's text, and how many parentheses are within one another in it.
func written(e api.Expr) (string, int) {
	span := func(ahead string, d int64, behind string) string {
		if d == 0 {
			return ""
		}
		s, _ := times.PrintSpan(d)
		return ahead + s + behind
	}
	switch e.Kind {
	case api.ExprNumber:
		return strconv.FormatFloat(e.X, 'g', -1, 64), 0
	case api.ExprSelect:
		head, l := "", e.Match
		if len(l) > 0 && l[0].Kind == api.MatchIs && l[0].Name == "__name__" && labels.Name(l[0].Value) && !isWordOfLanguage(l[0].Value) {
			head, l = l[0].Value, l[1:]
		}
		if head == "" || len(l) > 0 {
			text, _ := labels.PrintMatch(l)
			head += text
		}
		return head + span("[", e.Span, "]") + span(" offset ", e.Offset, ""), 0
	case api.ExprCall, api.ExprGroup:
		s, n := written(e.Kids[0])
		names := strings.Join(e.Names, ",")
		return e.Op + []string{"", " by (" + names + ") ", " without (" + names + ") "}[e.Group] + "(" + s + ")", n + 1
	}
	var texts []string
	most := 0
	for _, kid := range e.Kids {
		s, n := written(kid)
		if kid.Kind == api.ExprBinary {
			s, n = "("+s+")", n+1
		}
		texts = append(texts, s)
		most = max(most, n)
	}
	return strings.Join(texts, " "+e.Op+" "), most
}
