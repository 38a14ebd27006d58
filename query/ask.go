package query

import (
	"slices"

	"abacus/api"
	"abacus/labels"
	"abacus/store"
)

// Ask answers a question over a store, at a moment.
func Ask(s *store.Store, e api.Expr, at int64) (api.Answer, api.Errno) {
	if s == nil {
		return api.Answer{}, api.ErrNil
	}
	t, why := Type(e)
	switch {
	case why != api.OK:
		return api.Answer{}, why
	case t == api.TypeSpan:
		return api.Answer{}, api.ErrType
	case at < 0 || at >= api.MaxAt:
		return api.Answer{}, api.ErrRange
	}
	return asker{s, at}.answer(e)
}

// asker asks a store, at a moment.
type asker struct {
	store *store.Store
	at    int64
}

// answer is the answer to a question of any type but spans.
func (a asker) answer(e api.Expr) (api.Answer, api.Errno) {
	if typeOf(e) == api.TypeNumber {
		return api.Answer{Type: api.TypeNumber, X: numberOf(e)}, api.OK
	}
	l, why := a.rows(e)
	if why != api.OK {
		return api.Answer{}, why
	}
	return api.Answer{Type: api.TypeRows, Rows: l}, api.OK
}

// numberOf is the answer to a question of numbers alone.
func numberOf(e api.Expr) float64 {
	if e.Kind == api.ExprNumber {
		return e.X
	}
	return reckoned(e.Op, numberOf(e.Kids[0]), numberOf(e.Kids[1]))
}

// rows are the answer to a question of rows, rising by their labels.
func (a asker) rows(e api.Expr) ([]api.Rowed, api.Errno) {
	switch e.Kind {
	case api.ExprSelect:
		return a.each(e, api.LookBack, lastOf)
	case api.ExprCall:
		return a.call(e)
	case api.ExprGroup:
		return a.group(e)
	}
	return a.binary(e)
}

// each are a row for each series that a select wants: what is reckoned of its dots in a span up to the moment, where something is.
func (a asker) each(e api.Expr, span int64, reckon func([]api.Dot) (float64, bool)) ([]api.Rowed, api.Errno) {
	until := a.at - e.Offset
	if until < 0 {
		return nil, api.OK
	}
	sets, why := a.store.Series(e.Match)
	if why != api.OK {
		return nil, why
	}
	var rows []api.Rowed
	for _, set := range sets {
		dots, why := a.store.Dots(set, max(0, until-span+1), until+1)
		if why != api.OK {
			return nil, why
		}
		if x, is := reckon(dots); is {
			rows = append(rows, api.Rowed{Labels: set, X: told(x)})
		}
	}
	return rows, api.OK
}

// call are the rows of a function over a span.
func (a asker) call(e api.Expr) ([]api.Rowed, api.Errno) {
	kid := e.Kids[0]
	rows, why := a.each(kid, kid.Span, function(e.Op, kid.Span))
	if why != api.OK {
		return nil, why
	}
	return bare(rows)
}

// bare are rows without the name label, if no two have the same labels then.
func bare(rows []api.Rowed) ([]api.Rowed, api.Errno) {
	relabel(rows, func(set []api.Label) []api.Label { return labels.Without(set, []string{nameLabel}) })
	for i := 1; i < len(rows); i++ {
		if compare(rows[i-1], rows[i]) == 0 {
			return nil, api.ErrTwin
		}
	}
	return rows, api.OK
}

// relabel gives rows other labels, and puts them in order.
func relabel(rows []api.Rowed, other func([]api.Label) []api.Label) {
	for i, row := range rows {
		rows[i].Labels = other(row.Labels)
	}
	slices.SortFunc(rows, compare)
}

func compare(a, b api.Rowed) int {
	return labels.Compare(a.Labels, b.Labels)
}

// group are rows taken together.
func (a asker) group(e api.Expr) ([]api.Rowed, api.Errno) {
	rows, why := a.rows(e.Kids[0])
	if why != api.OK {
		return nil, why
	}
	relabel(rows, func(set []api.Label) []api.Label { return grouped(e, set) })
	take := functions()[e.Op]
	var groups []api.Rowed
	for len(rows) > 0 {
		var l []float64
		first := rows[0]
		for len(rows) > 0 && compare(first, rows[0]) == 0 {
			l = append(l, rows[0].X)
			rows = rows[1:]
		}
		groups = append(groups, api.Rowed{Labels: first.Labels, X: told(take(l))})
	}
	return groups, api.OK
}

// grouped are the labels by which a row is taken together with others.
func grouped(e api.Expr, set []api.Label) []api.Label {
	switch e.Group {
	case api.GroupBy:
		return labels.Keep(set, e.Names)
	case api.GroupWithout:
		return labels.Without(set, append([]string{nameLabel}, e.Names...))
	}
	return nil
}

// binary are the rows of a sign, of which one side or both are rows.
func (a asker) binary(e api.Expr) ([]api.Rowed, api.Errno) {
	first, why := a.answer(e.Kids[0])
	if why != api.OK {
		return nil, why
	}
	second, why := a.answer(e.Kids[1])
	switch {
	case why != api.OK:
		return nil, why
	case isChoosing(e.Op):
		return slices.DeleteFunc(first.Rows, func(row api.Rowed) bool { return !chooses(e.Op, row.X, second.X) }), api.OK
	case first.Type == api.TypeNumber:
		return reckonEach(second.Rows, func(x float64) float64 { return reckoned(e.Op, first.X, x) })
	case second.Type == api.TypeNumber:
		return reckonEach(first.Rows, func(x float64) float64 { return reckoned(e.Op, x, second.X) })
	}
	return reckonBoth(e.Op, first.Rows, second.Rows)
}

// reckonEach are rows without the name label, with what is reckoned of each.
func reckonEach(rows []api.Rowed, reckon func(float64) float64) ([]api.Rowed, api.Errno) {
	for i, row := range rows {
		rows[i].X = reckon(row.X)
	}
	return bare(rows)
}

// reckonBoth are what a sign answers of two rows at a time, that have the same labels but for the name label.
func reckonBoth(op string, first, second []api.Rowed) ([]api.Rowed, api.Errno) {
	first, why := bare(first)
	if why != api.OK {
		return nil, why
	}
	if second, why = bare(second); why != api.OK {
		return nil, why
	}
	var both []api.Rowed
	for _, row := range first {
		if i, is := slices.BinarySearchFunc(second, row, compare); is {
			both = append(both, api.Rowed{Labels: row.Labels, X: reckoned(op, row.X, second[i].X)})
		}
	}
	return both, api.OK
}
