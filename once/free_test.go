package once_test

import (
	"cmp"
	"math/rand"
	"runtime"
	"slices"
	"testing"
	"time"

	"abacus/api"
	"abacus/once"
)

type plan = [][]api.Ask

// frees holds a Free against what is wanted.
func frees(t *testing.T, name string, l plan, want []api.Ask, fresh int, err api.Errno) {
	t.Helper()
	if got, n, why := once.Free(l); !slices.Equal(got, want) || n != fresh || why != err {
		t.Errorf("%s: %v, %d, error %d; want %v, %d, error %d", name, got, n, why, want, fresh, err)
	}
}

func TestFree(t *testing.T) { // 13.5, and example 3
	a, b, c := api.Ask{Name: "a", Kind: api.MetricCounter}, api.Ask{Name: "b", Kind: api.MetricGauge}, api.Ask{Name: "B", Kind: api.MetricUntyped}
	frees(t, "the example", plan{{a, b}, {b}}, []api.Ask{a, b}, 2, api.OK)
	frees(t, "nothing", nil, nil, 0, api.OK)
	frees(t, "no lists", plan{}, nil, 0, api.OK)
	frees(t, "empty lists", plan{nil, {}}, nil, 0, api.OK)
	frees(t, "one, again and again", plan{{a, a}, {a}, {a, a, a}}, []api.Ask{a}, 1, api.OK)
	frees(t, "rising by their bytes", plan{{b}, {a}, {c}}, []api.Ask{c, a, b}, 3, api.OK)
}

func TestFreeRefuses(t *testing.T) { // 13.5
	one := []api.Ask{{Name: "a", Kind: api.MetricCounter}}
	other := []api.Ask{{Name: "a", Kind: api.MetricGauge}}
	noName := []api.Ask{{Name: "9", Kind: api.MetricCounter}}
	noKind := []api.Ask{{Name: "a", Kind: api.MetricCount}}
	neither := []api.Ask{{Name: ""}}
	whole := slices.Repeat(one, api.MaxSteps)
	var full []api.Ask
	for n := range api.MaxMetrics {
		full = append(full, numbered(n))
	}
	sorted := slices.SortedFunc(slices.Values(full), func(a, b api.Ask) int { return cmp.Compare(a.Name, b.Name) })
	frees(t, "all workers", slices.Repeat(plan{one}, api.MaxWorkers), one, 1, api.OK)
	frees(t, "one worker more", slices.Repeat(plan{one}, api.MaxWorkers+1), nil, 0, api.ErrMany)
	frees(t, "one worker more, of whom none asks", make(plan, api.MaxWorkers+1), nil, 0, api.ErrMany)
	frees(t, "too many workers ahead of no name", slices.Repeat(plan{noName}, api.MaxWorkers+1), nil, 0, api.ErrMany)
	frees(t, "all asks", plan{whole[:1000], whole[1000:]}, one, 1, api.OK)
	frees(t, "one ask more", plan{one, whole}, nil, 0, api.ErrMany)
	frees(t, "one ask more, the last one", plan{whole, nil, one}, nil, 0, api.ErrMany)
	frees(t, "too many asks ahead of no name", plan{noName, whole}, nil, 0, api.ErrMany)
	frees(t, "all names", plan{full[:7], full, full[3000:]}, sorted, api.MaxMetrics, api.OK)
	frees(t, "one name more", plan{full, one}, nil, 0, api.ErrMany)
	frees(t, "no name ahead of too many names", plan{full, one, noName}, nil, 0, api.ErrName)
	frees(t, "no kind ahead of too many names", plan{full, noKind}, nil, 0, api.ErrKind)
	frees(t, "too many names ahead of two kinds", plan{one, other, full}, nil, 0, api.ErrMany)
	frees(t, "no name", plan{one, slices.Concat(one, noName)}, nil, 0, api.ErrName)
	frees(t, "no kind", plan{one, noKind}, nil, 0, api.ErrKind)
	frees(t, "neither", plan{one, neither}, nil, 0, api.ErrName)
	frees(t, "no name first", plan{one, slices.Concat(noName, noKind)}, nil, 0, api.ErrName)
	frees(t, "no kind first", plan{slices.Concat(one, noKind), noName}, nil, 0, api.ErrKind)
	frees(t, "no kind ahead of two kinds", plan{one, other, noKind}, nil, 0, api.ErrKind)
	frees(t, "two kinds", plan{one, other}, nil, 0, api.ErrMix)
	frees(t, "two kinds in one list", plan{slices.Concat(one, full[:5], other)}, nil, 0, api.ErrMix)
	frees(t, "two kinds, the first one again", plan{one, other, one, one}, nil, 0, api.ErrMix)
	frees(t, "two kinds in a full registry", plan{full, {{Name: full[0].Name, Kind: full[0].Kind%5 + 1}}}, nil, 0, api.ErrMix)
}

func TestFreeOfAny(t *testing.T) { // 13.5, 13.8
	r := rand.New(rand.NewSource(15))
	for range 200 {
		l := make(plan, r.Intn(api.MaxWorkers+1))
		var want []api.Ask
		for w := range l {
			for range r.Intn(60) {
				a := numbered(r.Intn(1 + r.Intn(300)))
				l[w] = append(l[w], a)
				if !slices.Contains(want, a) {
					want = append(want, a)
				}
			}
		}
		slices.SortFunc(want, func(a, b api.Ask) int { return cmp.Compare(a.Name, b.Name) })
		frees(t, "any lists", l, want, len(want), api.OK)
	}
}

func TestFreeLeavesAllAsItWas(t *testing.T) { // 13.6, P4
	before := runtime.NumGoroutine()
	asked := []api.Ask{numbered(3), numbered(1), numbered(2)}
	l := slices.Repeat(plan{asked}, api.MaxWorkers)
	for range 20 {
		got, fresh, why := once.Free(l)
		if len(got) != 3 || fresh != 3 || why != api.OK {
			t.Fatal(got, fresh, why)
		}
		got[0] = api.Ask{}
	}
	if !slices.Equal(asked, []api.Ask{numbered(3), numbered(1), numbered(2)}) {
		t.Error("what was handed in is changed:", asked)
	}
	for tries := 0; runtime.NumGoroutine() > before; tries++ { // one that has ended is counted for a moment more
		if tries == 1000 {
			t.Fatal("goroutines are left:", runtime.NumGoroutine()-before)
		}
		time.Sleep(time.Millisecond)
	}
}
