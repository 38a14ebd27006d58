package store_test

import (
	"math"
	"math/rand"
	"slices"
	"strings"
	"testing"

	"abacus/api"
	"abacus/exact"
	"abacus/store"
)

func TestCoarse(t *testing.T) { // 20.6, example 3
	coarse(t, nil, 5, api.OK)
	coarse(t, []api.Roll{}, 5, api.OK)
	coarse(t, nil, 0, api.ErrRange)
	one, two, three := cellOf(0, 1, 5), cellOf(10, -3, 2), cellOf(25, minus)
	l := []api.Roll{one, two, three}
	coarse(t, l, 10, api.OK, one, two, cellOf(20, minus)) // a From lies in a window, where it begins or not
	coarse(t, l, 20, api.OK, cellOf(0, 1, 5, -3, 2), cellOf(20, minus))
	coarse(t, l, 15, api.OK, cellOf(0, 1, 5, -3, 2), cellOf(15, minus))
	coarse(t, l, 5, api.OK, one, two, three)
	coarse(t, l, 1, api.OK, one, two, three)
	coarse(t, l, 26, api.OK, cellOf(0, 1, 5, -3, 2, minus))
	coarse(t, l, 25, api.OK, cellOf(0, 1, 5, -3, 2), cellOf(25, minus))
	coarse(t, l, api.MaxAt, api.OK, cellOf(0, 1, 5, -3, 2, minus))
	coarse(t, l[1:], 7, api.OK, cellOf(7, -3, 2), cellOf(21, minus))
	last := []api.Roll{cellOf(api.MaxAt-1, 1), cellOf(api.MaxAt, 2)}
	coarse(t, last, 1, api.OK, last...)
	coarse(t, last, api.MaxAt, api.OK, cellOf(0, 1), cellOf(api.MaxAt, 2))
	coarse(t, last, api.MaxAt-1, api.OK, cellOf(api.MaxAt-1, 1, 2))
	for _, width := range []int64{0, -1, math.MinInt64, api.MaxAt + 1, math.MaxInt64} {
		coarse(t, l, width, api.ErrRange)
		coarse(t, []api.Roll{{}}, width, api.ErrRange) // ahead of ErrRoll
	}
	// -0, infinities
	coarse(t, []api.Roll{cellOf(0, minus), cellOf(1, minus, minus)}, 2, api.OK, cellOf(0, minus, minus, minus))
	coarse(t, []api.Roll{cellOf(0, minus), cellOf(1, 0)}, 2, api.OK, cellOf(0, minus, 0))
	coarse(t, []api.Roll{cellOf(0, 0), cellOf(1, minus)}, 2, api.OK, cellOf(0, 0, minus))
	coarse(t, []api.Roll{cellOf(0, inf), cellOf(1, -inf, 3)}, 2, api.OK, cellOf(0, inf, -inf, 3))
	coarse(t, []api.Roll{cellOf(0, 1e100), cellOf(1, 1), cellOf(2, -1e100)}, 3, api.OK, cellOf(0, 1e100, 1, -1e100))
}

// with is a right cell with one thing changed.
func with(change func(*api.Roll)) api.Roll {
	r := cellOf(10, 2, -1, 5, 3) // Least -1, Greatest 5, First 2, Last 3
	change(&r)
	return r
}

var wrongRolls = map[string]api.Roll{
	"nothing":                        {},
	"From below 0":                   with(func(r *api.Roll) { r.From = -1 }),
	"From above MaxAt":               with(func(r *api.Roll) { r.From = api.MaxAt + 1 }),
	"the least From":                 with(func(r *api.Roll) { r.From = math.MinInt64 }),
	"no Count":                       with(func(r *api.Roll) { r.Count, r.Total = 0, "0 0" }),
	"a Count too few":                with(func(r *api.Roll) { r.Count-- }),
	"a Count too many":               with(func(r *api.Roll) { r.Count++ }),
	"no Total":                       with(func(r *api.Roll) { r.Total = "" }),
	"a Total that is none":           with(func(r *api.Roll) { r.Total = "g 4" }),
	"a Total with a needless nought": with(func(r *api.Roll) { r.Total = "0" + r.Total }),
	"a Total with a blank behind":    with(func(r *api.Roll) { r.Total += " " }),
	"no number in Total":             with(func(r *api.Roll) { r.Total = "0 nan 4" }),
	"no number beside an infinity":   with(func(r *api.Roll) { r.Total = "0 +inf nan 4" }),
	"no number beside infinities":    with(func(r *api.Roll) { r.Total = "0 +inf -inf nan 4" }),
	"Least no number":                with(func(r *api.Roll) { r.Least = nan }),
	"Greatest no number":             with(func(r *api.Roll) { r.Greatest = nan }),
	"First no number":                with(func(r *api.Roll) { r.First = nan }),
	"Last no number":                 with(func(r *api.Roll) { r.Last = nan }),
	"Least above First":              with(func(r *api.Roll) { r.Least, r.First = 2.5, 2 }),
	"Least above Last":               with(func(r *api.Roll) { r.Least, r.Last, r.First = 2.5, 2, 3 }),
	"Least above Greatest":           with(func(r *api.Roll) { r.Least = 6 }),
	"First above Greatest":           with(func(r *api.Roll) { r.First = 5.5 }),
	"Last above Greatest":            with(func(r *api.Roll) { r.Last = inf }),
	"First below Least, of noughts":  with(func(r *api.Roll) { r.Least, r.First = 0, minus }),
	"Last above Greatest, likewise":  with(func(r *api.Roll) { r.Greatest, r.First, r.Last = minus, minus, 0 }),
	"Least above Greatest, likewise": with(func(r *api.Roll) { r.Least, r.Greatest, r.First, r.Last = 0, minus, 0, 0 }),
}

func TestCellsThatMayNotBe(t *testing.T) { // 20.6, and the words
	right := cellOf(0, 1)
	for name, r := range wrongRolls {
		for _, l := range [][]api.Roll{{r}, {right, r}, {r, cellOf(20, 1)}} {
			for _, width := range []int64{1, 100} {
				if got, why := store.Coarse(l, width); got != nil || why != api.ErrRoll {
					t.Errorf("%s: Coarse: %v, error %d", name, got, why)
				}
			}
		}
		if x, why := store.Mean(r); x != 0 || why != api.ErrRoll {
			t.Errorf("%s: Mean %v, error %d", name, x, why)
		}
	}
	for _, l := range [][]api.Roll{{right, right}, {cellOf(5, 1), cellOf(4, 1)}, {cellOf(0, 1), cellOf(5, 1), cellOf(5, 2)}, {cellOf(1, 1), cellOf(3, 1), cellOf(2, 2)}} {
		coarse(t, l, 1, api.ErrRoll)
		coarse(t, l, 100, api.ErrRoll)
	}
	for name, r := range map[string]api.Roll{ // nothing more is asked
		"a Total that no such floats come to":  with(func(r *api.Roll) { r.Total = "5 4" }),
		"infinities that the floats tell not":  with(func(r *api.Roll) { r.Total = "0 +inf -inf 4" }),
		"-0 where the floats tell others":      with(func(r *api.Roll) { r.Total = "0 -0 4" }),
		"infinities that the Total tells not":  with(func(r *api.Roll) { r.Least, r.Greatest = -inf, inf }),
		"one dot of several values":            with(func(r *api.Roll) { r.Count, r.Total = 1, "5 1" }),
		"all the same":                         with(func(r *api.Roll) { r.Least, r.Greatest, r.First, r.Last = 7, 7, 7, 7 }),
		"noughts in their order":               with(func(r *api.Roll) { r.Least, r.Greatest, r.First, r.Last = minus, 0, 0, minus }),
		"the last moment":                      with(func(r *api.Roll) { r.From = api.MaxAt }),
		"the first moment":                     with(func(r *api.Roll) { r.From = 0 }),
		"as many dots as a Count may tell":     with(func(r *api.Roll) { r.Count, r.Total = math.MaxUint64, "0 18446744073709551615" }),
		"a Total greater than any float":       with(func(r *api.Roll) { r.Total = strings.Repeat("f", 2000) + " 4" }),
		"a Total below 0, greater than any is": with(func(r *api.Roll) { r.Total = "-" + strings.Repeat("f", 2000) + " 4" }),
	} {
		coarse(t, []api.Roll{r}, 1, api.OK, r)
		sum, _ := exact.Parse(r.Total)
		if x, why := store.Mean(r); math.Float64bits(x) != math.Float64bits(sum.Mean()) || why != api.OK {
			t.Errorf("%s: Mean %v, error %d", name, x, why)
		}
	}
}

func TestCountsGoRound(t *testing.T) { // 20.6
	half := api.Roll{From: 0, Count: 1 << 63, Total: "5 9223372036854775808", Least: 1, Greatest: 3, First: 2, Last: 1}
	behind := api.Roll{From: 1, Count: 1 << 63, Total: "-7 9223372036854775808", Least: 0, Greatest: 2, First: 2, Last: 0}
	more := api.Roll{From: 2, Count: 3, Total: "1 3", Least: 2, Greatest: 9, First: 9, Last: 2}
	both := api.Roll{From: 0, Count: 0, Total: "-2 0", Least: 0, Greatest: 3, First: 2, Last: 0}
	all := api.Roll{From: 0, Count: 3, Total: "-1 3", Least: 0, Greatest: 9, First: 2, Last: 2}
	coarse(t, []api.Roll{half, behind}, 2, api.OK, both)
	coarse(t, []api.Roll{half, behind, more}, 3, api.OK, all) // what stands ahead of the round counts on
	coarse(t, []api.Roll{both}, 2, api.ErrRoll)
}

func TestMean(t *testing.T) { // 20.6
	for _, l := range [][]float64{{1.5, minus, 2}, {1, 2}, {0.1, 0.1, 0.1}, {minus}, {minus, minus}, {minus, 0}, {inf, 1}, {-inf, 1}, {math.MaxFloat64, math.MaxFloat64}, {math.SmallestNonzeroFloat64, 0, 0}, {-math.SmallestNonzeroFloat64, 0, 0}, {1e100, 1, -1e100}} {
		if x, why := store.Mean(cellOf(5, l...)); math.Float64bits(x) != math.Float64bits(mean(l...)) || why != api.OK {
			t.Errorf("Mean of %v: %v, error %d, want %v", l, x, why, mean(l...))
		}
	}
	if x, why := store.Mean(cellOf(5, inf, -inf)); x == x || why != api.OK {
		t.Errorf("Mean of both infinities: %v, error %d", x, why)
	}
}

// someCells are cells of dots of any moments and values.
func someCells(r *rand.Rand) []api.Roll {
	var all []api.Roll
	from := int64(0)
	for range r.Intn(20) {
		var l []float64
		for range 1 + r.Intn(4) {
			l = append(l, someValue(r))
		}
		all = append(all, cellOf(from, l...))
		from += 1 + int64(r.Intn(10))
	}
	return all
}

func TestCoarseOfAny(t *testing.T) { // 20.11, P3
	r := rand.New(rand.NewSource(11))
	for range 400 {
		l, width := someCells(r), 1+int64(r.Intn(30))
		joined, why := store.Coarse(l, width)
		if why != api.OK {
			t.Fatalf("Coarse of %v: error %d", short(l), why)
		}
		coarse(t, joined, width, api.OK, joined...) // again changes nothing
		coarse(t, l, width, api.OK, joined...)      // and it was not changed
		for i := range len(l) + 1 {
			if i > 0 && i < len(l) && l[i-1].From/width == l[i].From/width {
				continue // they share a window
			}
			x, _ := store.Coarse(l[:i], width)
			y, _ := store.Coarse(l[i:], width)
			if !sameRolls(slices.Concat(x, y), joined) {
				t.Fatalf("Coarse by %d of two lists of %v, parted at %d: %v, %v", width, short(l), i, short(x), short(y))
			}
		}
		k := 1 + int64(r.Intn(4))
		far, _ := store.Coarse(l, k*width)
		coarse(t, joined, k*width, api.OK, far...)
	}
}
