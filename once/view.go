package once

import (
	"cmp"
	"maps"
	"slices"
	"strings"

	"abacus/api"
)

// View is a registry as it was. Its maps are frozen: a view with a metric more has others, or shares them.
type View struct {
	metrics []api.Ask // by number
	// Names stand in one of two maps, the newest ones in the one that is copied for each metric more: to copy all each time would make a full registry dear.
	settled, newest map[string]int
}

// mostNewest is how many names are copied for each metric more, at most: about the root of MaxMetrics costs least.
const mostNewest = 64

func emptyView() *View {
	return &View{settled: map[string]int{}, newest: map[string]int{}}
}

// with is a view with a metric more. It is asked of the newest view alone, once: so the two may share a list, behind whose end the new metric comes.
func (v *View) with(a api.Ask) *View {
	a.Name = strings.Clone(a.Name)
	next := &View{metrics: append(v.metrics, a), settled: v.settled, newest: maps.Clone(v.newest)}
	next.newest[a.Name] = v.Len()
	if len(next.newest) == mostNewest {
		next.settled = maps.Clone(v.settled)
		maps.Copy(next.settled, next.newest)
		next.newest = map[string]int{}
	}
	return next
}

// Find is the number and kind of a name.
func (v *View) Find(name string) (int, api.MetricKind, bool) {
	if v == nil {
		return 0, api.MetricNone, false
	}
	n, is := v.newest[name]
	if !is {
		n, is = v.settled[name]
	}
	if !is {
		return 0, api.MetricNone, false
	}
	return n, v.metrics[n].Kind, true
}

// number is the number of a metric that is asked for, or what is wrong: that there is none, or one of another kind.
func (v *View) number(a api.Ask) (int, api.Errno) {
	n, kind, is := v.Find(a.Name)
	switch {
	case !is:
		return 0, api.ErrNone
	case kind != a.Kind:
		return 0, api.ErrKind
	}
	return n, api.OK
}

// Len is how many metrics there are.
func (v *View) Len() int {
	if v == nil {
		return 0
	}
	return len(v.metrics)
}

// All is name and kind of each metric, by number.
func (v *View) All() []api.Ask {
	all := make([]api.Ask, v.Len())
	for n := range all {
		a := v.metrics[n]
		all[n] = api.Ask{Name: strings.Clone(a.Name), Kind: a.Kind}
	}
	return all
}

// Names are the names, rising.
func (v *View) Names() []string {
	names := make([]string, 0, v.Len())
	for _, a := range v.byName() {
		names = append(names, a.Name)
	}
	return names
}

// byName is name and kind of each metric, rising by name.
func (v *View) byName() []api.Ask {
	all := v.All()
	slices.SortFunc(all, func(a, b api.Ask) int { return cmp.Compare(a.Name, b.Name) })
	return all
}
