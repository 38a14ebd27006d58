package once

import (
	"sync"
	"sync/atomic"

	"abacus/api"
	"abacus/labels"
)

// Registry has metrics by their names: who asks looks at a view, that never changes; who adds puts another one in its place.
type Registry struct {
	first  sync.Once // puts a view without metrics
	view   atomic.Pointer[View]
	adding sync.Mutex
}

// Open is an empty registry.
func Open() *Registry {
	return &Registry{}
}

// Ask is a metric's number, and whether it is new.
func (r *Registry) Ask(a api.Ask) (int, bool, api.Errno) {
	if r == nil {
		return 0, false, api.ErrNil
	}
	if why := check(a); why != api.OK {
		return 0, false, why
	}
	n, why := r.View().number(a)
	if why == api.ErrNone {
		return r.add(a)
	}
	return n, false, why
}

// check tells what is wrong with an ask by itself.
func check(a api.Ask) api.Errno {
	switch {
	case !labels.Name(a.Name):
		return api.ErrName
	case a.Kind == api.MetricNone || a.Kind >= api.MetricCount:
		return api.ErrKind
	}
	return api.OK
}

// add adds a metric, unless it came between the look at the view and the lock.
func (r *Registry) add(a api.Ask) (int, bool, api.Errno) {
	r.adding.Lock()
	defer r.adding.Unlock()
	v := r.View()
	n, why := v.number(a)
	switch {
	case why != api.ErrNone:
		return n, false, why
	case v.Len() == api.MaxMetrics:
		return 0, false, api.ErrMany
	}
	r.view.Store(v.with(a))
	return v.Len(), true, api.OK
}

// View is all metrics that there are now, which no later one changes.
func (r *Registry) View() *View {
	if r == nil {
		return nil
	}
	r.first.Do(func() { r.view.Store(emptyView()) })
	return r.view.Load()
}
