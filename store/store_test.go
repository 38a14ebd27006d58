package store_test

import (
	"math"
	"math/rand"
	"slices"
	"strings"
	"testing"
	"unsafe"

	"abacus/api"
	"abacus/labels"
	"abacus/store"
)

func TestExamples(t *testing.T) { // examples 1 and 2
	s := made(t, 10)
	puts(t, s, a, dots(3, 1.5, 12, minus, 17, 2)...)
	refused(t, s, a, 17, 5, api.ErrOld)
	refused(t, s, a, 20, nan, api.ErrFloat)
	fine := []api.Roll{
		{From: 0, Count: 1, Total: total(1.5), Least: 1.5, Greatest: 1.5, First: 1.5, Last: 1.5},
		{From: 10, Count: 2, Total: total(2), Least: minus, Greatest: 2, First: minus, Last: 2},
	}
	fine[1].Total = strings.TrimSuffix(fine[1].Total, "1") + "2"
	rough := api.Roll{From: 0, Count: 3, Total: total(1.5, minus, 2), Least: minus, Greatest: 2, First: 1.5, Last: 2}
	rolls(t, s, a, 0, 20, 10, api.OK, fine...)
	rolls(t, s, a, 0, 20, 20, api.OK, rough)
	if x, why := store.Mean(rough); x != 1.1666666666666667 || why != api.OK {
		t.Error("Mean:", x, why)
	}
	trims(t, s, 15, api.OK, 10)
	tells(t, s, a, 0, 20, api.ErrGone)
	tells(t, s, a, 10, 20, api.OK, dots(12, minus, 17, 2)...)
	rolls(t, s, a, 0, 20, 10, api.OK, fine...)
	rolls(t, s, a, 0, 20, 20, api.OK, rough)
	refused(t, s, b, 5, 1, api.ErrOld)
	rolls(t, s, a, 0, 15, 10, api.ErrRange)
	rolls(t, s, a, 0, 20, 15, api.ErrRange)
	tells(t, s, z, 10, 20, api.ErrSeries)
	sets(t, s, nil, api.OK, a)
}

func TestNew(t *testing.T) { // 20.1
	for _, width := range []int64{1, 2, 10, 1 << 40, api.MaxAt - 1, api.MaxAt} {
		s := made(t, width)
		if s.Floor() != 0 {
			t.Errorf("New(%d): Floor %d", width, s.Floor())
		}
		sets(t, s, nil, api.OK)
		tells(t, s, a, 0, 5, api.ErrSeries)
	}
	for _, width := range []int64{0, -1, math.MinInt64, api.MaxAt + 1, math.MaxInt64} {
		if s, why := store.New(width); s != nil || why != api.ErrRange {
			t.Errorf("New(%d): error %d", width, why)
		}
	}
}

var wrongSets = [][]api.Label{of("b", "x", "a", "x"), of("a", "x", "a", "y"), of("a", ""), of("", "x"), of("1a", "x"), of("a", "\xff"), of("a", strings.Repeat("v", api.MaxValue+1)), of(strings.Repeat("n", api.MaxName+1), "x"), many(api.MaxLabels + 1)}

// many are so many labels, as a set but for their number.
func many(n int) []api.Label {
	var l []api.Label
	for i := range n {
		l = append(l, api.Label{Name: "n" + string(rune('A'+i/26)) + string(rune('a'+i%26)), Value: "v"})
	}
	return l
}

func TestAppend(t *testing.T) { // 20.2
	s := made(t, 10)
	for _, set := range wrongSets {
		refused(t, s, set, 1, 1, api.ErrLabel)
		refused(t, s, set, -1, nan, api.ErrLabel)
	}
	for _, at := range []int64{-1, math.MinInt64, api.MaxAt + 1, math.MaxInt64} {
		refused(t, s, a, at, 1, api.ErrRange)
		refused(t, s, a, at, nan, api.ErrRange)
	}
	for _, x := range []uint64{0x7ff8000000000001, 0x7ff0000000000001, 0xfff8000000000000, 0xffffffffffffffff} {
		refused(t, s, a, 1, math.Float64frombits(x), api.ErrFloat)
	}
	sets(t, s, nil, api.OK) // what was refused changed nothing
	for _, set := range [][]api.Label{nil, a, many(api.MaxLabels), of(strings.Repeat("n", api.MaxName), strings.Repeat("v", api.MaxValue)), of("a", "\"\n\\é")} {
		puts(t, s, set, dots(0, inf, 1, -inf, 2, minus)...)
		puts(t, s, set, api.Dot{At: api.MaxAt, V: math.MaxFloat64})
		refused(t, s, set, api.MaxAt, 1, api.ErrOld)
		refused(t, s, set, api.MaxAt-1, 1, api.ErrOld)
		refused(t, s, set, 0, nan, api.ErrFloat) // ahead of ErrOld
		tells(t, s, set, 0, 9, api.OK, dots(0, inf, 1, -inf, 2, minus)...)
	}
	puts(t, s, b, dots(7, 1)...) // each series has a last dot of its own
	refused(t, s, b, 7, 1, api.ErrOld)
	refused(t, s, b, 6, 1, api.ErrOld)
	refused(t, s, b, 0, 1, api.ErrOld)
	puts(t, s, b, dots(8, 1)...)
	tells(t, s, b, 0, api.MaxAt, api.OK, dots(7, 1, 8, 1)...)
	tells(t, s, of(), 0, 1, api.OK, dots(0, inf)...) // none and nil are one
}

func TestSeriesAreManyAtMost(t *testing.T) { // 20.2
	s := made(t, 10)
	for n := range api.MaxSeries {
		puts(t, s, number(n), api.Dot{At: int64(n), V: 1})
	}
	refused(t, s, a, 5, 1, api.ErrMany)
	refused(t, s, a, 5, nan, api.ErrFloat)
	refused(t, s, a, -1, 1, api.ErrRange)
	tells(t, s, a, 0, 1, api.ErrSeries)
	puts(t, s, number(3), dots(5, 2)...) // to those that there are others may be put
	trims(t, s, api.MaxAt, api.OK, api.MaxAt/10*10)
	refused(t, s, a, api.MaxAt, 1, api.ErrMany)
	refused(t, s, a, 5, 1, api.ErrOld) // ahead of ErrMany
	puts(t, s, number(3), api.Dot{At: api.MaxAt, V: 3})
	if all, why := s.Series(nil); len(all) != api.MaxSeries || why != api.OK {
		t.Errorf("Series: %d of them, error %d", len(all), why)
	}
}

func TestDotsAreManyAtMost(t *testing.T) { // 20.2, 20.8
	plain, trimmed := made(t, 10), made(t, 10)
	for at := range int64(api.MaxDots) {
		d := api.Dot{At: at, V: float64(at)}
		puts(t, plain, a, d)
		puts(t, trimmed, a, d)
		if at%5000 == 77 {
			trims(t, trimmed, at, api.OK, at/10*10)
		}
	}
	for _, s := range []*store.Store{plain, trimmed} {
		refused(t, s, a, api.MaxDots, 1, api.ErrMany)
		refused(t, s, a, api.MaxDots-1, 1, api.ErrOld) // ahead of ErrMany
		refused(t, s, a, api.MaxDots, nan, api.ErrFloat)
		puts(t, s, b, dots(api.MaxDots, 1)...)
	}
	trims(t, trimmed, api.MaxAt, api.OK, api.MaxAt/10*10)
	refused(t, trimmed, a, api.MaxAt, 1, api.ErrMany)
	const end = api.MaxDots/10*10 + 10
	for _, width := range []int64{10, 70, end} {
		to := end / width * width
		x, _ := plain.Rolls(a, 0, to, width)
		y, why := trimmed.Rolls(a, 0, to, width)
		if !sameRolls(x, y) || why != api.OK || len(x) != int(to/width) {
			t.Errorf("of the width %d: %d cells, and %d where dots were trimmed, error %d", width, len(x), len(y), why)
		}
	}
	all, why := plain.Dots(a, 0, api.MaxAt)
	if len(all) != api.MaxDots || why != api.OK || all[api.MaxDots-1].At != api.MaxDots-1 {
		t.Errorf("Dots: %d of them, error %d", len(all), why)
	}
}

func TestTrim(t *testing.T) { // 20.3
	s := made(t, 10)
	puts(t, s, a, dots(0, 1, 9, 2, 10, 3, 19, 4, 20, 5, 35, 6)...)
	puts(t, s, b, dots(5, 1)...)
	for _, x := range []struct {
		before int64
		why    api.Errno
		floor  int64
	}{
		{-1, api.ErrRange, 0}, {math.MinInt64, api.ErrRange, 0}, {api.MaxAt + 1, api.ErrRange, 0}, {math.MaxInt64, api.ErrRange, 0},
		{0, api.OK, 0}, {9, api.OK, 0}, {10, api.OK, 10}, {19, api.OK, 10}, {5, api.OK, 10}, {0, api.OK, 10}, {-1, api.ErrRange, 10}, {20, api.OK, 20}, {29, api.OK, 20},
	} {
		trims(t, s, x.before, x.why, x.floor)
		want := dots(0, 1, 9, 2, 10, 3, 19, 4, 20, 5, 35, 6)
		want = slices.DeleteFunc(want, func(d api.Dot) bool { return d.At < x.floor })
		tells(t, s, a, x.floor, 40, api.OK, want...)
		if x.floor > 0 {
			tells(t, s, a, x.floor-1, 40, api.ErrGone)
			tells(t, s, a, 0, 0, api.ErrGone)
		}
	}
	refused(t, s, b, 19, 1, api.ErrOld) // below the floor
	refused(t, s, z, 19, 1, api.ErrOld)
	refused(t, s, a, 35, 1, api.ErrOld)
	puts(t, s, b, dots(20, 7)...)
	puts(t, s, z, dots(20, 8)...)
	rolls(t, s, a, 0, 40, 10, api.OK, cellOf(0, 1, 2), cellOf(10, 3, 4), cellOf(20, 5), cellOf(30, 6))
	rolls(t, s, a, 0, 40, 20, api.OK, cellOf(0, 1, 2, 3, 4), cellOf(20, 5, 6))
	rolls(t, s, b, 0, 40, 40, api.OK, cellOf(0, 1, 7))
	trims(t, s, api.MaxAt, api.OK, api.MaxAt/10*10)
	tells(t, s, a, api.MaxAt/10*10, api.MaxAt, api.OK)
	rolls(t, s, a, 0, 40, 40, api.OK, cellOf(0, 1, 2, 3, 4, 5, 6))
	sets(t, s, nil, api.OK, a, b, z) // those without dots, too
	refused(t, s, a, 40, 1, api.ErrOld)
	puts(t, s, a, api.Dot{At: api.MaxAt/10*10 + 1, V: 9})

	whole := made(t, api.MaxAt) // of which there is one window, and its last moment is in the next one
	puts(t, whole, a, dots(7, 1)...)
	puts(t, whole, a, api.Dot{At: api.MaxAt, V: 2})
	trims(t, whole, api.MaxAt-1, api.OK, 0)
	tells(t, whole, a, 0, api.MaxAt, api.OK, dots(7, 1)...)
	trims(t, whole, api.MaxAt, api.OK, api.MaxAt)
	tells(t, whole, a, api.MaxAt, api.MaxAt, api.OK)
	rolls(t, whole, a, 0, api.MaxAt, api.MaxAt, api.OK, cellOf(0, 1))
	puts(t, whole, b, api.Dot{At: api.MaxAt, V: 2})
	refused(t, whole, b, api.MaxAt, 2, api.ErrOld)
}

func TestSeries(t *testing.T) { // 20.4
	s := made(t, 10)
	odd := of("a", "x", "b", "\"\\\n")
	// Their texts would stand in another order: a digit, and a { , stand elsewhere than what ends a name or a set.
	all := [][]api.Label{nil, of("a", "!"), a, odd, of("a", "x", "c", "1"), of("a", "x!"), of("a", "x\""), of("a", "x1"), of("a", "xx"), of("a", "é"), of("a1", "x"), of("aa", "x"), b}
	if !slices.IsSortedFunc(all, labels.Compare) {
		t.Fatal("they should rise")
	}
	for _, i := range rand.New(rand.NewSource(4)).Perm(len(all)) {
		puts(t, s, all[i], dots(1, 1)...)
	}
	sets(t, s, nil, api.OK, all...)
	sets(t, s, []api.Match{}, api.OK, all...)
	sets(t, s, []api.Match{{Kind: api.MatchIs, Name: "a", Value: "x"}}, api.OK, a, odd, of("a", "x", "c", "1"))
	sets(t, s, []api.Match{{Kind: api.MatchIs, Name: "a"}}, api.OK, nil, of("a1", "x"), of("aa", "x"), b)
	sets(t, s, []api.Match{{Kind: api.MatchGlob, Name: "a", Value: "x?"}, {Kind: api.MatchElse, Name: "a", Value: "*1"}}, api.OK, of("a", "x!"), of("a", "x\""), of("a", "xx"))
	sets(t, s, []api.Match{{Kind: api.MatchNot, Name: "a", Value: "x"}, {Kind: api.MatchIs, Name: "a", Value: "x"}}, api.OK)
	wrong, right := api.Match{Kind: api.MatchIs, Name: "1"}, api.Match{Kind: api.MatchNot, Name: "q", Value: "q"}
	for _, s := range []*store.Store{s, made(t, 1)} { // also where there are no series
		for _, m := range []api.Match{wrong, {}, {Kind: api.MatchCount, Name: "a"}, {Kind: api.MatchIs, Name: "a", Value: "\xff"}, {Kind: api.MatchGlob, Name: "a", Value: strings.Repeat("v", api.MaxValue+1)}} {
			sets(t, s, []api.Match{right, m}, api.ErrMatch)
		}
		sets(t, s, slices.Repeat([]api.Match{right}, api.MaxLabels+1), api.ErrMany)
		sets(t, s, slices.Repeat([]api.Match{wrong}, api.MaxLabels+1), api.ErrMany)
	}
	sets(t, s, slices.Repeat([]api.Match{right}, api.MaxLabels), api.OK, all...)
}

func TestDots(t *testing.T) { // 20.4
	s := made(t, 10)
	puts(t, s, a, dots(0, 1, 5, 2, 6, 3, 30, 4)...)
	puts(t, s, a, api.Dot{At: api.MaxAt - 1, V: 5}, api.Dot{At: api.MaxAt, V: 6})
	for _, x := range []struct {
		from, to int64
		want     []api.Dot
	}{
		{0, 0, nil}, {0, 1, dots(0, 1)}, {0, 5, dots(0, 1)}, {0, 6, dots(0, 1, 5, 2)}, {1, 5, nil}, {5, 5, nil}, {5, 6, dots(5, 2)}, {5, 31, dots(5, 2, 6, 3, 30, 4)}, {7, 30, nil}, {31, 1000, nil},
		{7, api.MaxAt, []api.Dot{{At: 30, V: 4}, {At: api.MaxAt - 1, V: 5}}}, {api.MaxAt, api.MaxAt, nil}, {api.MaxAt - 1, api.MaxAt - 1, nil},
	} {
		tells(t, s, a, x.from, x.to, api.OK, x.want...)
	}
	for _, x := range [][2]int64{{-1, 5}, {math.MinInt64, math.MaxInt64}, {6, 5}, {0, -1}, {0, api.MaxAt + 1}, {api.MaxAt + 1, api.MaxAt + 1}, {api.MaxAt, api.MaxAt - 1}, {math.MaxInt64, math.MaxInt64}, {-5, -5}} {
		tells(t, s, a, x[0], x[1], api.ErrRange)
		tells(t, s, z, x[0], x[1], api.ErrRange) // ahead of ErrSeries
		tells(t, s, wrongSets[0], x[0], x[1], api.ErrLabel)
	}
	for _, set := range wrongSets {
		tells(t, s, set, 0, 5, api.ErrLabel)
	}
	trims(t, s, 10, api.OK, 10)
	tells(t, s, z, 0, 5, api.ErrSeries) // ahead of ErrGone
	tells(t, s, a, 0, 0, api.ErrGone)
	tells(t, s, a, 9, 100, api.ErrGone)
	tells(t, s, a, 10, 100, api.OK, dots(30, 4)...)
	tells(t, s, a, 11, 100, api.OK, dots(30, 4)...)
	tells(t, s, a, 5, 4, api.ErrRange)
}

func TestRolls(t *testing.T) { // 20.5, and the words
	s := made(t, 10)
	puts(t, s, a, dots(0, 3, 9, -1, 10, minus, 11, 0, 29, inf, 30, -inf, 31, 7, 45, minus, 46, minus)...)
	puts(t, s, a, api.Dot{At: api.MaxAt, V: 6})
	one, two, three, four, five := cellOf(0, 3, -1), cellOf(10, minus, 0), cellOf(20, inf), cellOf(30, -inf, 7), cellOf(40, minus, minus)
	if !strings.HasPrefix(three.Total, "0 +inf") || five.Total != "0 -0 2" || two.Total != "0 2" {
		t.Error("the second telling of totals:", three.Total, five.Total, two.Total)
	}
	const most = api.MaxAt / 10 * 10
	for _, x := range []struct {
		from, to, width int64
		want            []api.Roll
	}{
		{0, 50, 10, []api.Roll{one, two, three, four, five}},
		{0, 0, 10, nil}, {50, 50, 10, nil}, {50, most, 10, nil}, {most, most, 10, nil},
		{0, 10, 10, []api.Roll{one}}, {10, 20, 10, []api.Roll{two}}, {10, 40, 10, []api.Roll{two, three, four}}, {40, most, 10, []api.Roll{five}},
		{0, 60, 20, []api.Roll{cellOf(0, 3, -1, minus, 0), cellOf(20, inf, -inf, 7), cellOf(40, minus, minus)}},
		{20, 40, 20, []api.Roll{cellOf(20, inf, -inf, 7)}},
		{0, 60, 30, []api.Roll{cellOf(0, 3, -1, minus, 0, inf), cellOf(30, -inf, 7, minus, minus)}},
		{0, most, most, []api.Roll{cellOf(0, 3, -1, minus, 0, inf, -inf, 7, minus, minus)}},
		{0, 0, most, nil},
	} {
		rolls(t, s, a, x.from, x.to, x.width, api.OK, x.want...)
	}
	for _, x := range [][3]int64{
		{0, 50, 0}, {0, 50, -10}, {0, 50, 5}, {0, 50, 15}, {0, 50, 11}, {0, 0, math.MinInt64}, {0, 0, api.MaxAt}, {0, 0, most + 10}, {0, 0, math.MaxInt64},
		{1, 50, 10}, {0, 51, 10}, {-10, 50, 10}, {0, -10, 10}, {20, 10, 10}, {0, most + 10, 10}, {most + 10, most + 10, 10}, {10, 40, 20}, {0, 50, 20}, {0, math.MaxInt64, 10}, {math.MinInt64, 0, 10}, {0, api.MaxAt, 10},
	} {
		rolls(t, s, a, x[0], x[1], x[2], api.ErrRange)
		rolls(t, s, z, x[0], x[1], x[2], api.ErrRange) // ahead of ErrSeries
		rolls(t, s, wrongSets[2], x[0], x[1], x[2], api.ErrLabel)
	}
	for _, set := range wrongSets {
		rolls(t, s, set, 0, 50, 10, api.ErrLabel)
	}
	rolls(t, s, z, 0, 50, 10, api.ErrSeries)
	fine := made(t, 1) // windows up to the last moment but one
	puts(t, fine, a, api.Dot{At: api.MaxAt - 1, V: 5}, api.Dot{At: api.MaxAt, V: 6})
	rolls(t, fine, a, 0, api.MaxAt, 1, api.OK, cellOf(api.MaxAt-1, 5))
	rolls(t, fine, a, 0, api.MaxAt, api.MaxAt, api.OK, cellOf(0, 5))
	rolls(t, fine, a, 0, api.MaxAt, api.MaxAt/2, api.OK, cellOf(api.MaxAt/2, 5))
}

func TestNil(t *testing.T) { // 20.7
	var s *store.Store
	if s.Floor() != 0 {
		t.Error("Floor:", s.Floor())
	}
	for _, set := range [][]api.Label{a, wrongSets[0]} {
		refused(t, s, set, 1, 1, api.ErrNil)
		refused(t, s, set, -1, nan, api.ErrNil)
		tells(t, s, set, 0, 5, api.ErrNil)
		tells(t, s, set, 5, -1, api.ErrNil)
		rolls(t, s, set, 0, 5, 5, api.ErrNil)
		rolls(t, s, set, 1, -1, 0, api.ErrNil)
	}
	trims(t, s, 5, api.ErrNil, 0)
	trims(t, s, -1, api.ErrNil, 0)
	sets(t, s, nil, api.ErrNil)
	sets(t, s, []api.Match{{}}, api.ErrNil)
}

func TestNewMemory(t *testing.T) { // 20.7
	s := made(t, 10)
	set := of(strings.Clone("aa"), strings.Clone("xx"))
	kept := slices.Clone(set)
	puts(t, s, set, dots(1, 1, 11, 2, 12, 3)...)
	told, _ := s.Series(nil)
	again, _ := s.Series(nil)
	texts := map[*byte]bool{}
	for _, l := range [][]api.Label{set, told[0], again[0]} {
		texts[unsafe.StringData(l[0].Name)], texts[unsafe.StringData(l[0].Value)] = true, true
	}
	if len(texts) != 6 {
		t.Error("texts share their memory")
	}
	set[0] = api.Label{Name: "b", Value: "y"}
	told[0][0] = api.Label{Name: "c", Value: "z"}
	sets(t, s, nil, api.OK, kept)
	got, _ := s.Dots(kept, 0, 20)
	got = got[:cap(got)]
	for i := range got {
		got[i] = api.Dot{At: 5, V: 5}
	}
	tells(t, s, kept, 0, 20, api.OK, dots(1, 1, 11, 2, 12, 3)...)
	part, _ := s.Dots(kept, 0, 11)
	part = append(part, api.Dot{At: 7}) // spare room, too
	tells(t, s, kept, 0, 20, api.OK, dots(1, 1, 11, 2, 12, 3)...)
	want := []api.Match{{Kind: api.MatchIs, Name: "aa", Value: "xx"}}
	wanted := slices.Clone(want)
	sets(t, s, want, api.OK, kept)
	if !slices.Equal(want, wanted) {
		t.Error("what was handed in is changed:", want)
	}
	for range 2 { // of dots, then of what is kept of them
		cells, _ := s.Rolls(kept, 0, 20, 10)
		for i := range cells {
			cells[i] = api.Roll{}
		}
		rolls(t, s, kept, 0, 20, 10, api.OK, cellOf(0, 1), cellOf(10, 2, 3))
		trims(t, s, 20, api.OK, 20)
		rolls(t, s, kept, 0, 20, 20, api.OK, cellOf(0, 1, 2, 3)) // joined: the cells of ten stay as they were
	}
}

func TestTwoStoresAreApart(t *testing.T) { // P4
	x, y := made(t, 10), made(t, 5)
	puts(t, x, a, dots(1, 1)...)
	puts(t, y, b, dots(2, 2)...)
	trims(t, x, 20, api.OK, 20)
	trims(t, y, 3, api.OK, 0)
	sets(t, x, nil, api.OK, a)
	sets(t, y, nil, api.OK, b)
	tells(t, y, b, 0, 5, api.OK, dots(2, 2)...)
}
