package store_test

import (
	"math"
	"math/big"
	"math/rand"
	"reflect"
	"slices"
	"strconv"
	"testing"

	"abacus/api"
	"abacus/labels"
	"abacus/store"
)

var (
	inf   = math.Inf(1)
	minus = math.Copysign(0, -1)
	nan   = math.NaN()
)

// of is a set, of names and values.
func of(words ...string) []api.Label {
	var l []api.Label
	for i := 0; i+1 < len(words); i += 2 {
		l = append(l, api.Label{Name: words[i], Value: words[i+1]})
	}
	return l
}

var a, b, z = of("a", "x"), of("b", "x"), of("z", "x")

// number is a set of its own for each n.
func number(n int) []api.Label {
	return of("n", strconv.Itoa(n))
}

// dots are moments and values by turns.
func dots(l ...float64) []api.Dot {
	var all []api.Dot
	for i := 0; i < len(l); i += 2 {
		all = append(all, api.Dot{At: int64(l[i]), V: l[i+1]})
	}
	return all
}

func made(t *testing.T, width int64) *store.Store {
	t.Helper()
	s, why := store.New(width)
	if s == nil || why != api.OK {
		t.Fatalf("New(%d): error %d", width, why)
	}
	return s
}

func puts(t *testing.T, s *store.Store, set []api.Label, l ...api.Dot) {
	t.Helper()
	for _, d := range l {
		if why := s.Append(set, d); why != api.OK {
			t.Fatalf("Append(%v, %v): error %d", set, d, why)
		}
	}
}

func refused(t *testing.T, s *store.Store, set []api.Label, at int64, v float64, want api.Errno) {
	t.Helper()
	if why := s.Append(set, api.Dot{At: at, V: v}); why != want {
		t.Errorf("Append(%.100v, %d %v): error %d, want %d", set, at, v, why, want)
	}
}

func trims(t *testing.T, s *store.Store, before int64, why api.Errno, floor int64) {
	t.Helper()
	if got := s.Trim(before); got != why || s.Floor() != floor {
		t.Errorf("Trim(%d): error %d, Floor %d, want error %d, %d", before, got, s.Floor(), why, floor)
	}
}

// bits are floats as they are told: a -0 is not 0.
func bits(l ...float64) []uint64 {
	var all []uint64
	for _, x := range l {
		all = append(all, math.Float64bits(x))
	}
	return all
}

func sameDots(x, y []api.Dot) bool {
	return slices.EqualFunc(x, y, func(a, b api.Dot) bool { return a.At == b.At && math.Float64bits(a.V) == math.Float64bits(b.V) })
}

func sameRolls(x, y []api.Roll) bool {
	return slices.EqualFunc(x, y, func(a, b api.Roll) bool {
		return a.From == b.From && a.Count == b.Count && a.Total == b.Total && slices.Equal(bits(a.Least, a.Greatest, a.First, a.Last), bits(b.Least, b.Greatest, b.First, b.Last))
	})
}

func sameSets(x, y [][]api.Label) bool {
	return slices.EqualFunc(x, y, func(a, b []api.Label) bool { return slices.Equal(a, b) })
}

// short are rolls whose totals are told in few bytes.
func short(l []api.Roll) []api.Roll {
	var all []api.Roll
	for _, r := range l {
		if len(r.Total) > 24 {
			r.Total = r.Total[:10] + " .. " + r.Total[len(r.Total)-10:]
		}
		all = append(all, r)
	}
	return all
}

func tells(t *testing.T, s *store.Store, set []api.Label, from, to int64, why api.Errno, want ...api.Dot) {
	t.Helper()
	if got, e := s.Dots(set, from, to); !sameDots(got, want) || e != why {
		t.Errorf("Dots(%.100v, %d, %d): %v, error %d, want %v, error %d", set, from, to, got, e, want, why)
	}
}

func rolls(t *testing.T, s *store.Store, set []api.Label, from, to, width int64, why api.Errno, want ...api.Roll) {
	t.Helper()
	if got, e := s.Rolls(set, from, to, width); !sameRolls(got, want) || e != why {
		t.Errorf("Rolls(%.100v, %d, %d, %d): %v, error %d, want %v, error %d", set, from, to, width, short(got), e, short(want), why)
	}
}

func sets(t *testing.T, s *store.Store, want []api.Match, why api.Errno, all ...[]api.Label) {
	t.Helper()
	if got, e := s.Series(want); !sameSets(got, all) || e != why {
		t.Errorf("Series(%.100v): %v, error %d, want %v, error %d", want, got, e, all, why)
	}
}

func coarse(t *testing.T, l []api.Roll, width int64, why api.Errno, want ...api.Roll) {
	t.Helper()
	kept := slices.Clone(l)
	if got, e := store.Coarse(l, width); !sameRolls(got, want) || e != why {
		t.Errorf("Coarse(%v, %d): %v, error %d, want %v, error %d", short(l), width, short(got), e, short(want), why)
	}
	if !reflect.DeepEqual(l, kept) && !sameRolls(l, kept) {
		t.Errorf("what was handed in is changed: %v, was %v", l, kept)
	}
}

// What follows tells sums and cells a second time, with big numbers, from all dots that were put.

// least are so many of the least float as a finite one comes to.
func least(x float64) *big.Int {
	f := new(big.Float).SetPrec(2200).SetFloat64(x)
	n, _ := f.SetMantExp(f, 1074).Int(nil)
	return n
}

// summed is what floats come to; up, down: an infinity is among them; whole: something else than -0 is.
func summed(l []float64) (n *big.Int, up, down, whole bool) {
	n = new(big.Int)
	for _, x := range l {
		switch {
		case x > math.MaxFloat64:
			up = true
		case x < -math.MaxFloat64:
			down = true
		default:
			n.Add(n, least(x))
		}
		whole = whole || math.Float64bits(x) != 1<<63
	}
	return n, up, down, whole
}

// total is the text of the exact sum.
func total(l ...float64) string {
	n, up, down, whole := summed(l)
	text := n.Text(16)
	if up {
		text += " +inf"
	}
	if down {
		text += " -inf"
	}
	if !whole {
		text += " -0"
	}
	return text + " " + strconv.Itoa(len(l))
}

// mean is the float that is nearest to the sum divided by how many there are.
func mean(l ...float64) float64 {
	n, up, down, whole := summed(l)
	switch {
	case up && down:
		return nan
	case up:
		return inf
	case down:
		return -inf
	case !whole:
		return minus
	}
	x, _ := new(big.Rat).SetFrac(n, new(big.Int).Lsh(big.NewInt(int64(len(l))), 1074)).Float64()
	if x == 0 {
		return 0
	}
	return x
}

// rank is a number by which numbers are ordered as their bits say: -0 below 0.
func rank(x float64) int64 {
	n := int64(math.Float64bits(x))
	if n < 0 {
		return math.MinInt64 - n - 1 // -0 is the one below 0
	}
	return n
}

// cellOf is what values come to.
func cellOf(from int64, l ...float64) api.Roll {
	byRank := slices.SortedFunc(slices.Values(l), func(x, y float64) int {
		return big.NewInt(rank(x)).Cmp(big.NewInt(rank(y)))
	})
	return api.Roll{From: from, Count: uint64(len(l)), Total: total(l...), Least: byRank[0], Greatest: byRank[len(l)-1], First: l[0], Last: l[len(l)-1]}
}

// cellsOf are the cells of a width of dots from one moment on, up to, but without, another.
func cellsOf(l []api.Dot, from, to, width int64) []api.Roll {
	var all []api.Roll
	var values []float64
	for i, d := range l {
		if d.At < from || d.At >= to {
			continue
		}
		values = append(values, d.V)
		if i+1 == len(l) || l[i+1].At/width != d.At/width {
			all = append(all, cellOf(d.At/width*width, values...))
			values = nil
		}
	}
	return all
}

// model is a store that keeps all dots, and forgets nothing.
type model struct {
	width, floor int64
	sets         [][]api.Label // in the order in which they came
	dots         [][]api.Dot
}

func (m *model) find(set []api.Label) int {
	return slices.IndexFunc(m.sets, func(x []api.Label) bool { return slices.Equal(x, set) })
}

func (m *model) put(set []api.Label, d api.Dot) api.Errno {
	i := m.find(set)
	switch {
	case !labels.Right(set):
		return api.ErrLabel
	case d.At < 0 || d.At > api.MaxAt:
		return api.ErrRange
	case d.V != d.V:
		return api.ErrFloat
	case d.At < m.floor || i >= 0 && m.dots[i][len(m.dots[i])-1].At >= d.At:
		return api.ErrOld
	}
	if i < 0 {
		m.sets = append(m.sets, set)
		m.dots = append(m.dots, []api.Dot{d})
	} else {
		m.dots[i] = append(m.dots[i], d)
	}
	return api.OK
}

func (m *model) trim(before int64) api.Errno {
	if before < 0 || before > api.MaxAt {
		return api.ErrRange
	}
	m.floor = max(m.floor, before/m.width*m.width)
	return api.OK
}

func (m *model) rolls(set []api.Label, from, to, width int64) ([]api.Roll, api.Errno) {
	i := m.find(set)
	switch {
	case !labels.Right(set):
		return nil, api.ErrLabel
	case width < 1 || width > api.MaxAt || width%m.width != 0 || from < 0 || from%width != 0 || to < from || to > api.MaxAt || to%width != 0:
		return nil, api.ErrRange
	case i < 0:
		return nil, api.ErrSeries
	}
	return cellsOf(m.dots[i], from, to, width), api.OK
}

func (m *model) between(set []api.Label, from, to int64) ([]api.Dot, api.Errno) {
	i := m.find(set)
	switch {
	case !labels.Right(set):
		return nil, api.ErrLabel
	case from < 0 || to < from || to > api.MaxAt:
		return nil, api.ErrRange
	case i < 0:
		return nil, api.ErrSeries
	case from < m.floor:
		return nil, api.ErrGone
	}
	var l []api.Dot
	for _, d := range m.dots[i] {
		if d.At >= from && d.At < to {
			l = append(l, d)
		}
	}
	return l, api.OK
}

func (m *model) series(want []api.Match) [][]api.Label {
	var all [][]api.Label
	for _, set := range m.sets {
		if is, _ := labels.Matches(set, want); is {
			all = append(all, set)
		}
	}
	slices.SortFunc(all, labels.Compare)
	return all
}

func someValue(r *rand.Rand) float64 {
	switch r.Intn(10) {
	case 0, 1, 2:
		return float64(r.Intn(20) - 10)
	case 3:
		return minus
	case 4:
		return []float64{0, inf, -inf, math.MaxFloat64, -math.MaxFloat64, math.SmallestNonzeroFloat64, -math.SmallestNonzeroFloat64, 1e100, -1e100}[r.Intn(9)]
	case 5:
		if x := math.Float64frombits(r.Uint64()); x == x {
			return x
		}
		return 0.1
	}
	return r.NormFloat64()
}
