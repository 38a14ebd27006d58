package query

import (
	"math"
	"slices"
	"strings"

	"abacus/api"
	"abacus/expo"
	"abacus/labels"
	"abacus/times"
)

// fault is what is wrong with a text, and where: by a panic with it, what reads deep within gives up.
type fault struct {
	why api.Errno
	at  int
}

// Parse reads a question; the place of the fault, where there is one.
func Parse(s string) (e api.Expr, why api.Errno, at int) {
	if len(s) > api.MaxQuery {
		return api.Expr{}, api.ErrLong, 0
	}
	defer func() {
		if f, is := recover().(fault); is {
			e, why, at = api.Expr{}, f.why, f.at
		}
	}()
	r := &reader{text: s}
	r.step(0)
	e = r.question()
	r.must(endOfText)
	if wrong := Check(e); wrong != api.OK { // written, it may have more parentheses
		return api.Expr{}, wrong, 0
	}
	return e, api.OK, 0
}

// reader goes through a text from the left, token by token.
type reader struct {
	text   string
	next   kind // of the token that comes next
	at     int  // its place
	behind int  // and the place behind it
	deep   int  // how many parentheses are open
}

// step goes on to the token at a place, or behind the blanks there.
func (r *reader) step(from int) {
	rest := strings.TrimLeft(r.text[from:], blanks)
	r.at = len(r.text) - len(rest)
	next, n := tokenOf(rest)
	r.next, r.behind = next, r.at+n
}

// token is the text of the token that comes next.
func (r *reader) token() string {
	return r.text[r.at:r.behind]
}

// take takes the token that comes next: its text, in new memory.
func (r *reader) take() string {
	text := strings.Clone(r.token())
	r.step(r.behind)
	return text
}

// refuse gives up at the token that comes next.
func (r *reader) refuse() {
	panic(fault{api.ErrQuery, r.at})
}

// must takes a token that has to be of a kind.
func (r *reader) must(k kind) {
	if r.next != k {
		r.refuse()
	}
	r.step(r.behind)
}

// open takes a parenthesis.
func (r *reader) open() {
	if r.next == '(' && r.deep == api.MaxDeep {
		panic(fault{api.ErrMany, r.at})
	}
	r.must('(')
	r.deep++
}

// shut takes the one that closes it.
func (r *reader) shut() {
	r.must(')')
	r.deep--
}

// level is signs of which none goes ahead of the others, and what reads the parts that they stand between.
type level struct {
	signs string
	part  func(*reader) api.Expr
}

// levels are all of them: the parts of each are read by way of the next one.
func levels() [3]level {
	return [...]level{
		{"<>", (*reader).sum},
		{"+-", (*reader).product},
		{"*/", (*reader).part},
	}
}

func (r *reader) question() api.Expr {
	return r.level(levels()[0])
}

func (r *reader) sum() api.Expr {
	return r.level(levels()[1])
}

func (r *reader) product() api.Expr {
	return r.level(levels()[2])
}

// level reads parts with signs between, taken together from the left.
func (r *reader) level(l level) api.Expr {
	e := l.part(r)
	for strings.IndexByte(l.signs, byte(r.next)) >= 0 {
		op := r.take()
		e = api.Expr{Kind: api.ExprBinary, Op: op, Kids: []api.Expr{e, l.part(r)}}
	}
	return e
}

func (r *reader) part() api.Expr {
	switch r.next {
	case numberToken:
		return api.Expr{Kind: api.ExprNumber, X: r.number()}
	case '(':
		return r.inner()
	case matchersToken:
		return r.choice()
	case wordToken:
		switch text := r.token(); {
		case isFunction(text):
			return api.Expr{Kind: api.ExprCall, Op: r.take(), Kids: []api.Expr{r.inner()}}
		case isTaking(text):
			return r.group()
		case !isOfLanguage(text):
			return r.choice()
		}
	}
	r.refuse()
	return api.Expr{}
}

func (r *reader) number() float64 {
	x, is := expo.ParseFloat(r.token())
	if !is || math.IsInf(x, 0) {
		r.refuse()
	}
	r.step(r.behind)
	return x
}

// inner reads a question in parentheses.
func (r *reader) inner() api.Expr {
	r.open()
	e := r.question()
	r.shut()
	return e
}

// group reads what takes rows together.
func (r *reader) group() api.Expr {
	e := api.Expr{Kind: api.ExprGroup, Op: r.take()}
	if r.next == wordToken {
		switch r.token() {
		case byWord:
			e.Group = api.GroupBy
		case withoutWord:
			e.Group = api.GroupWithout
		default:
			r.refuse()
		}
		r.step(r.behind)
		e.Names = r.names()
	}
	e.Kids = []api.Expr{r.inner()}
	return e
}

// names reads names in parentheses, and puts them in order.
func (r *reader) names() []string {
	r.open()
	var l []string
	for r.next != ')' {
		if len(l) > 0 {
			r.must(',')
		}
		if len(l) == api.MaxLabels {
			r.refuse()
		}
		l = append(l, r.name())
	}
	r.shut()
	slices.Sort(l)
	return slices.Compact(l)
}

func (r *reader) name() string {
	if r.next != wordToken || !labels.Name(r.token()) {
		r.refuse()
	}
	return r.take()
}

// choice reads a select.
func (r *reader) choice() api.Expr {
	e := api.Expr{Kind: api.ExprSelect}
	if r.next == wordToken {
		e.Match = []api.Match{{Kind: api.MatchIs, Name: nameLabel, Value: r.name()}}
	}
	if r.next == matchersToken {
		e.Match = append(e.Match, r.matchers(api.MaxLabels-len(e.Match))...)
	}
	if r.next == spanToken {
		e.Span = r.over()
	}
	if r.next == wordToken && r.token() == offsetWord {
		e.Offset = r.offset()
	}
	return e
}

// matchers reads matchers, of which there may be so many.
func (r *reader) matchers(most int) []api.Match {
	l, why, _ := labels.ParseMatch(r.token())
	if why != api.OK || len(l) > most {
		r.refuse()
	}
	r.step(r.behind)
	return l
}

// over reads a span in brackets.
func (r *reader) over() int64 {
	text := r.token()
	span := r.span(text[1 : len(text)-1])
	if span == 0 {
		r.refuse()
	}
	r.step(r.behind)
	return span
}

// offset reads a span behind the word: it is no token, for one would end ahead of its letters.
func (r *reader) offset() int64 {
	r.step(r.behind)
	behind := r.at + lengthOf(r.text[r.at:], isSmall, isDigit)
	span := r.span(r.text[r.at:behind])
	r.step(behind)
	return span
}

// span is what a text says that stands at the token that comes next.
func (r *reader) span(text string) int64 {
	span, why, _ := times.ParseSpan(text)
	if why != api.OK {
		r.refuse()
	}
	return span
}
