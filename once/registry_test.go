package once_test

import (
	"math/rand"
	"slices"
	"strconv"
	"strings"
	"sync"
	"testing"

	"abacus/api"
	"abacus/once"
)

// asks holds an Ask against what is wanted.
func asks(t *testing.T, r *once.Registry, name string, kind api.MetricKind, n int, isNew bool, err api.Errno) {
	t.Helper()
	if got, is, why := r.Ask(api.Ask{Name: name, Kind: kind}); got != n || is != isNew || why != err {
		t.Errorf("Ask(%q, %d): %d, %v, error %d, want %d, %v, error %d", name, kind, got, is, why, n, isNew, err)
	}
}

// shows holds a view against the metrics that it is to have.
func shows(t *testing.T, v *once.View, want ...api.Ask) {
	t.Helper()
	if v == nil || v.Len() != len(want) || !slices.Equal(v.All(), want) {
		t.Fatalf("a view has %v, want %v", v.All(), want)
	}
	var names []string
	for n, a := range want {
		if got, kind, is := v.Find(a.Name); got != n || kind != a.Kind || !is {
			t.Fatalf("Find(%q): %d, %d, %v, want %d", a.Name, got, kind, is, n)
		}
		names = append(names, a.Name)
	}
	slices.Sort(names)
	if !slices.Equal(v.Names(), names) {
		t.Fatalf("Names: %v, want %v", v.Names(), names)
	}
	lacks(t, v, "", "none", "9", "a b")
}

func lacks(t *testing.T, v *once.View, names ...string) {
	t.Helper()
	for _, name := range names {
		if n, kind, is := v.Find(name); n != 0 || kind != api.MetricNone || is {
			t.Fatalf("Find(%q): %d, %d, %v", name, n, kind, is)
		}
	}
}

func TestOpen(t *testing.T) { // 13.3, 13.4
	r := once.Open()
	if r == nil {
		t.Fatal("Open is nil")
	}
	shows(t, r.View())
	if other := once.Open(); other == r {
		t.Error("two registries are one")
	}
}

func TestAsk(t *testing.T) { // 13.3, and example 3
	r := once.Open()
	asks(t, r, "a", api.MetricCounter, 0, true, api.OK)
	asks(t, r, "b", api.MetricGauge, 1, true, api.OK)
	asks(t, r, "a", api.MetricCounter, 0, false, api.OK)
	asks(t, r, "a", api.MetricGauge, 0, false, api.ErrKind)
	asks(t, r, "9", api.MetricGauge, 0, false, api.ErrName)
	shows(t, r.View(), api.Ask{Name: "a", Kind: api.MetricCounter}, api.Ask{Name: "b", Kind: api.MetricGauge})
	asks(t, r, "b", api.MetricGauge, 1, false, api.OK)
	for n, kind := range []api.MetricKind{api.MetricHistogram, api.MetricSummary, api.MetricUntyped} {
		name := "kind" + strconv.Itoa(n)
		asks(t, r, name, kind, 2+n, true, api.OK)
		asks(t, r, name, kind, 2+n, false, api.OK)
	}
	asks(t, r, strings.Repeat("x", api.MaxName), api.MetricCounter, 5, true, api.OK)
	asks(t, r, "_", api.MetricCounter, 6, true, api.OK)
	asks(t, r, "A9", api.MetricCounter, 7, true, api.OK)
	asks(t, r, "a9", api.MetricCounter, 8, true, api.OK) // other letters, another name
}

func TestAskRefuses(t *testing.T) { // 13.3
	r := once.Open()
	asks(t, r, "a", api.MetricCounter, 0, true, api.OK)
	for _, name := range []string{"", "9", "9a", "a b", "a-b", "a:b", "é", "a\n", "\xff", strings.Repeat("x", api.MaxName+1)} {
		for _, kind := range []api.MetricKind{api.MetricCounter, api.MetricNone, api.MetricCount, 255} {
			asks(t, r, name, kind, 0, false, api.ErrName)
		}
	}
	for _, name := range []string{"a", "b"} {
		for _, kind := range []api.MetricKind{api.MetricNone, api.MetricCount, api.MetricCount + 1, 255} {
			asks(t, r, name, kind, 0, false, api.ErrKind)
		}
	}
	for kind := api.MetricGauge; kind < api.MetricCount; kind++ {
		asks(t, r, "a", kind, 0, false, api.ErrKind)
	}
	shows(t, r.View(), api.Ask{Name: "a", Kind: api.MetricCounter})
	asks(t, r, "b", api.MetricGauge, 1, true, api.OK) // no number is spent on what was refused
}

// numbered is the name of a metric with a number, which stand in another order than the numbers do.
func numbered(n int) api.Ask {
	return api.Ask{Name: "m" + strconv.Itoa(n*2654435761%(1<<32)), Kind: api.MetricCounter + api.MetricKind(n%5)}
}

func TestFullRegistry(t *testing.T) { // 13.3, 13.4
	r := once.Open()
	var all []api.Ask
	for n := range api.MaxMetrics {
		a := numbered(n)
		all = append(all, a)
		asks(t, r, a.Name, a.Kind, n, true, api.OK)
	}
	shows(t, r.View(), all...)
	asks(t, r, "one_more", api.MetricCounter, 0, false, api.ErrMany)
	asks(t, r, "one-more", api.MetricCounter, 0, false, api.ErrName)
	asks(t, r, "one_more", api.MetricCount, 0, false, api.ErrKind)
	for n, a := range all {
		asks(t, r, a.Name, a.Kind, n, false, api.OK)
		asks(t, r, a.Name, a.Kind%5+1, 0, false, api.ErrKind)
	}
	shows(t, r.View(), all...)
}

func TestNilRegistry(t *testing.T) { // 13.6
	var r *once.Registry
	asks(t, r, "a", api.MetricCounter, 0, false, api.ErrNil)
	asks(t, r, "9", api.MetricNone, 0, false, api.ErrNil)
	if r.View() != nil {
		t.Error("a nil registry has a view")
	}
	var v *once.View
	if v.Len() != 0 || len(v.All()) != 0 || len(v.Names()) != 0 {
		t.Error("a nil view has:", v.Len(), v.All(), v.Names())
	}
	lacks(t, v, "a", "")
}

func TestRegistriesAreApart(t *testing.T) { // P4
	a, b := once.Open(), once.Open()
	asks(t, a, "x", api.MetricCounter, 0, true, api.OK)
	asks(t, a, "y", api.MetricCounter, 1, true, api.OK)
	asks(t, b, "y", api.MetricGauge, 0, true, api.OK)
	shows(t, b.View(), api.Ask{Name: "y", Kind: api.MetricGauge})
}

// Each view stays as it is, however many metrics come behind it.
func TestViewsGrow(t *testing.T) { // 13.4, 13.9
	r := once.Open()
	views := []*once.View{r.View()}
	var all []api.Ask
	for n := range 300 {
		a := numbered(n)
		asks(t, r, a.Name, a.Kind, n, true, api.OK)
		all = append(all, a)
		views = append(views, r.View())
	}
	for n, v := range views {
		shows(t, v, all[:n]...)
		if n < len(all) {
			lacks(t, v, all[n].Name, all[len(all)-1].Name)
		}
	}
}

func TestViewsAnswerNewMemory(t *testing.T) { // 13.6
	r := once.Open()
	a, b := api.Ask{Name: "b", Kind: api.MetricGauge}, api.Ask{Name: "a", Kind: api.MetricCounter}
	for n, x := range []api.Ask{a, b} {
		asks(t, r, x.Name, x.Kind, n, true, api.OK)
	}
	v := r.View()
	all, names := v.All(), v.Names()
	all[0], names[0] = api.Ask{Name: "z"}, "z"
	all, names = append(all, b), append(names, "y")
	shows(t, v, a, b)
	c := api.Ask{Name: "c", Kind: api.MetricSummary}
	asks(t, r, c.Name, c.Kind, 2, true, api.OK)
	shows(t, v, a, b)
	shows(t, r.View(), a, b, c)
	if all[2] != b || names[2] != "y" {
		t.Error("an answer is changed by what came later:", all, names)
	}
}

func TestAnyOrder(t *testing.T) { // 13.3, 13.4, 13.8
	r := rand.New(rand.NewSource(14))
	for range 60 {
		reg := once.Open()
		var all []api.Ask
		for range r.Intn(500) {
			a := numbered(r.Intn(1 + r.Intn(400)))
			n := slices.IndexFunc(all, func(x api.Ask) bool { return x.Name == a.Name })
			switch {
			case n < 0:
				asks(t, reg, a.Name, a.Kind, len(all), true, api.OK)
				all = append(all, a)
			case r.Intn(3) == 0:
				asks(t, reg, a.Name, a.Kind%5+1, 0, false, api.ErrKind)
			default:
				asks(t, reg, a.Name, a.Kind, n, false, api.OK)
			}
		}
		shows(t, reg.View(), all...)
	}
}

// together runs a function by so many goroutines, which begin at one time, and joins them.
func together(workers int, f func(worker int)) {
	begin := make(chan struct{})
	var all sync.WaitGroup
	for w := range workers {
		all.Go(func() {
			<-begin
			f(w)
		})
	}
	close(begin)
	all.Wait()
}

// Who looks first puts the first view, whoever else does: none that has a metric is lost by it.
func TestFirstViewByMany(t *testing.T) { // 13.3, 13.4
	const workers = 4
	for range 20000 {
		r := once.Open()
		together(workers, func(n int) {
			a := numbered(n)
			if _, isNew, why := r.Ask(a); !isNew || why != api.OK {
				t.Errorf("Ask(%v): %v, error %d", a, isNew, why)
			}
			if _, kind, is := r.View().Find(a.Name); !is || kind != a.Kind {
				t.Errorf("what was asked is not in a view behind it: %v", a)
			}
		})
		if r.View().Len() != workers {
			t.Fatal("metrics:", r.View().Len())
		}
	}
}

// grown tells whether a view has all that an earlier one has, with the same numbers.
func grown(earlier, later *once.View) bool {
	a, b := earlier.All(), later.All()
	return len(a) <= len(b) && slices.Equal(a, b[:len(a)])
}

func TestRegistryByMany(t *testing.T) { // 13.3, 13.8, 13.9
	const workers, names = 8, 601
	r := once.Open()
	got, fresh := make([][names]int, workers), make([]int, workers)
	together(workers, func(w int) {
		last := r.View()
		for i := range names {
			n := (i*(2*w+1) + w*37) % names // each once, as names is a prime
			a := numbered(n)
			number, isNew, why := r.Ask(a)
			got[w][n] = number
			if isNew {
				fresh[w]++
			}
			if _, _, bad := r.Ask(api.Ask{Name: a.Name, Kind: a.Kind%5 + 1}); why != api.OK || bad != api.ErrKind {
				t.Errorf("Ask(%v): error %d; of another kind: %d", a, why, bad)
			}
			v := r.View()
			if at, kind, is := v.Find(a.Name); at != number || kind != a.Kind || !is || !grown(last, v) {
				t.Errorf("a view behind Ask(%v) = %d: %d, %d, %v", a, number, at, kind, is)
			}
			last = v
		}
	})
	v, sum := r.View(), 0
	for w := range workers {
		sum += fresh[w]
		for n, number := range got[w] {
			if v.All()[number] != numbered(n) {
				t.Fatalf("the number of %v is %d, but there stands %v", numbered(n), number, v.All()[number])
			}
		}
	}
	if v.Len() != names || sum != names {
		t.Errorf("%d metrics, of which %d were new", v.Len(), sum)
	}
}

func TestFullByMany(t *testing.T) { // 13.3, 13.8
	const workers = 8
	r := once.Open()
	fresh, refused := make([]int, workers), make([]int, workers)
	together(workers, func(w int) {
		for i := range 2 * api.MaxMetrics / workers {
			_, isNew, why := r.Ask(numbered(i*workers + w))
			switch {
			case isNew && why == api.OK:
				fresh[w]++
			case !isNew && why == api.ErrMany:
				refused[w]++
			}
		}
	})
	sum, less := 0, 0
	for w := range workers {
		sum += fresh[w]
		less += refused[w]
	}
	if sum != api.MaxMetrics || less != api.MaxMetrics || r.View().Len() != api.MaxMetrics {
		t.Errorf("%d were new, %d refused, there are %d", sum, less, r.View().Len())
	}
}
