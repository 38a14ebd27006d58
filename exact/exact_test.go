package exact_test

import (
	"math"
	"math/big"
	"math/rand"
	"slices"
	"strings"
	"testing"

	"abacus/api"
	"abacus/exact"
)

const (
	least    = math.SmallestNonzeroFloat64
	greatest = math.MaxFloat64
)

var (
	inf, nan, minus = math.Inf(1), math.NaN(), math.Copysign(0, -1)
	odd             = math.Float64frombits(0xfff0000000000005) // no number either, by other bits
)

// bits are a float's, one pattern for all that are no number.
func bits(x float64) uint64 {
	if math.IsNaN(x) {
		return 0x7ff8000000000001
	}
	return math.Float64bits(x)
}

// same tells whether a float that was answered is another one, bit by bit.
func same(got, want float64) bool {
	return math.Float64bits(got) == bits(want)
}

func of(l ...float64) *exact.Sum {
	s := exact.New()
	for _, x := range l {
		s.Add(x)
	}
	return s
}

func parsed(t *testing.T, text string) *exact.Sum {
	t.Helper()
	s, why := exact.Parse(text)
	if s == nil || why != api.OK {
		t.Fatalf("Parse(%q): error %d", text, why)
	}
	return s
}

// shadow is what the document says of a sum, by big numbers.
type shadow struct {
	n                    big.Int
	up, down, none, some bool // some: something else than -0
	count                uint64
}

func shadowOf(l ...float64) *shadow {
	s := &shadow{}
	for _, x := range l {
		s.add(x)
	}
	return s
}

// units are how many least floats a float is.
func units(x float64) *big.Int {
	f := new(big.Float).SetFloat64(x)
	n, how := f.SetMantExp(f, 1074).Int(nil)
	if how != big.Exact {
		panic("no whole number of the least float")
	}
	return n
}

func (s *shadow) add(x float64) {
	switch {
	case math.IsNaN(x):
		s.none = true
	case x > greatest:
		s.up = true
	case x < -greatest:
		s.down = true
	default:
		s.n.Add(&s.n, units(x))
	}
	s.some = s.some || bits(x) != bits(minus)
	s.count++
}

func (s *shadow) text() string {
	text := s.n.Text(16)
	for _, x := range []struct {
		is   bool
		text string
	}{{s.up, " +inf"}, {s.down, " -inf"}, {s.none, " nan"}, {!s.some && s.count > 0, " -0"}} {
		if x.is {
			text += x.text
		}
	}
	return text + " " + new(big.Int).SetUint64(s.count).String()
}

// divided is the value, or the mean, by the rounding of big fractions.
func (s *shadow) divided(by uint64) float64 {
	switch {
	case by == 0, s.none, s.up && s.down:
		return nan
	case s.up:
		return inf
	case s.down:
		return -inf
	case !s.some && s.count > 0:
		return minus
	}
	x, _ := new(big.Rat).SetFrac(&s.n, new(big.Int).Lsh(new(big.Int).SetUint64(by), 1074)).Float64()
	if x == 0 {
		return 0
	}
	return x
}

// agree holds all that a sum tells against its shadow.
func agree(t *testing.T, what any, got *exact.Sum, want *shadow) {
	t.Helper()
	if got.Text() != want.text() {
		t.Errorf("%v: Text %q, want %q", what, got.Text(), want.text())
	}
	if x := want.divided(1); !same(got.Value(), x) {
		t.Errorf("%v: Value %v, want %v", what, got.Value(), x)
	}
	if x := want.divided(want.count); !same(got.Mean(), x) {
		t.Errorf("%v: Mean %v, want %v", what, got.Mean(), x)
	}
	if got.Count() != want.count {
		t.Errorf("%v: Count %d, want %d", what, got.Count(), want.count)
	}
}

// someFloats are floats of all kinds: by turns ones that are like one another, so that sums come near 0, and to ties.
func someFloats(r *rand.Rand, n int) []float64 {
	l := make([]float64, n)
	power := r.Intn(2000) - 1000
	kind := r.Intn(6)
	for i := range l {
		switch kind {
		case 0: // any, but those at the upper end of the powers
			l[i] = math.Float64frombits(r.Uint64() &^ (1 << 62))
		case 1: // of like power
			l[i] = math.Ldexp(float64(r.Int63()-r.Int63()), power+r.Intn(3))
		case 2: // powers of two
			l[i] = math.Ldexp(1-2*float64(r.Intn(2)), power+r.Intn(130)-1074*r.Intn(2))
		case 3: // the least ones
			l[i] = math.Copysign(math.Float64frombits(r.Uint64()>>(11+r.Intn(53))), float64(r.Intn(2))-0.5)
		case 4: // the greatest ones
			l[i] = math.Copysign(math.Float64frombits(math.Float64bits(greatest)-r.Uint64()>>(11+r.Intn(53))), float64(r.Intn(2))-0.5)
		case 5: // taken back, now and then
			l[i] = math.Ldexp(r.NormFloat64(), power)
			if i > 0 && r.Intn(2) == 0 {
				l[i] = -l[r.Intn(i)]
			}
		}
	}
	return l
}

func TestNew(t *testing.T) { // 9.1
	s := exact.New()
	agree(t, "none", s, shadowOf())
	if s.Text() != "0 0" || !same(s.Value(), 0) || !same(s.Mean(), nan) || s.Count() != 0 {
		t.Error(s.Text(), s.Value(), s.Mean(), s.Count())
	}
	if other := exact.New(); other == s || other.Add(1) != api.OK || s.Text() != "0 0" {
		t.Error("two sums are one")
	}
}

func TestAdd(t *testing.T) { // 9.1 to 9.3
	for _, x := range []struct {
		l     []float64
		value float64
		mean  float64
	}{
		{nil, 0, nan},
		{[]float64{0}, 0, 0},
		{[]float64{minus}, minus, minus},
		{[]float64{minus, minus}, minus, minus},
		{[]float64{minus, 0}, 0, 0},
		{[]float64{0, minus}, 0, 0},
		{[]float64{1, -1}, 0, 0},
		{[]float64{-1, minus, 1}, 0, 0},
		{[]float64{1, 2}, 3, 1.5},
		{[]float64{-1, -2, -4}, -7, -7.0 / 3},
		{[]float64{least}, least, least},
		{[]float64{-least}, -least, -least},
		{[]float64{least, 0}, least, 0},                 // half of the least: the even one is 0
		{[]float64{-least, 0}, -least, 0},               // not -0
		{[]float64{least, least, 0}, 2 * least, least},  // two thirds
		{[]float64{3 * least, 0}, 3 * least, 2 * least}, // one and a half: the even one is 2
		{[]float64{5 * least, 0}, 5 * least, 2 * least},
		{[]float64{greatest}, greatest, greatest},
		{[]float64{greatest, greatest}, inf, greatest},
		{[]float64{-greatest, -greatest}, -inf, -greatest},
		{[]float64{greatest, greatest, -greatest}, greatest, greatest / 3},
		{[]float64{inf}, inf, inf},
		{[]float64{-inf, 1}, -inf, -inf},
		{[]float64{inf, inf}, inf, inf},
		{[]float64{inf, -inf}, nan, nan},
		{[]float64{nan}, nan, nan},
		{[]float64{odd, inf}, nan, nan},
		{[]float64{1, nan, minus}, nan, nan},
		{[]float64{inf, minus, -greatest}, inf, inf},
		{[]float64{1e100, 1, -1e100}, 1, 1.0 / 3},
		{slices.Repeat([]float64{0.1}, 10), 1, 0.1},
	} {
		s := exact.New()
		for _, v := range x.l {
			if why := s.Add(v); why != api.OK {
				t.Errorf("Add(%v): error %d", v, why)
			}
		}
		agree(t, x.l, s, shadowOf(x.l...))
		if !same(s.Value(), x.value) || !same(s.Mean(), x.mean) || s.Count() != uint64(len(x.l)) {
			t.Errorf("%v: Value %v, Mean %v, Count %d", x.l, s.Value(), s.Mean(), s.Count())
		}
	}
}

func TestExamples(t *testing.T) { // examples 1 to 4
	for _, x := range []struct {
		l    []float64
		want string
	}{
		{nil, "0 0"},
		{[]float64{least}, "1 1"},
		{[]float64{1}, "4" + strings.Repeat("0", 268) + " 1"},
		{[]float64{minus}, "0 -0 1"},
		{[]float64{minus, 0}, "0 2"},
		{[]float64{inf}, "0 +inf 1"},
	} {
		if got := of(x.l...).Text(); got != x.want {
			t.Errorf("Text of %v: %q", x.l, got)
		}
	}
	l := []float64{1e100, 1, -1e100}
	if got := []float64{of(l...).Value(), exact.Naive(l), exact.Kahan(l)}; !slices.Equal(got, []float64{1, 0, 1}) {
		t.Error("of 1e100, 1, -1e100:", got)
	}
	l = slices.Repeat([]float64{0.1}, 10)
	if got := []float64{of(l...).Value(), exact.Naive(l), exact.Kahan(l)}; !slices.Equal(got, []float64{1, 0.9999999999999999, 1}) {
		t.Error("of 0.1 ten times:", got)
	}
	if got := of(1, 2).Mean(); got != 1.5 {
		t.Error("Mean of 1, 2:", got)
	}
	if s := of(greatest, greatest); s.Value() != inf || s.Mean() != greatest {
		t.Error("the greatest float twice:", s.Value(), s.Mean())
	}
}

func TestAnyFloats(t *testing.T) { // 9.1 to 9.3, 9.8
	r := rand.New(rand.NewSource(1))
	for range 4000 {
		l := someFloats(r, r.Intn(12))
		for len(l) > 0 && r.Intn(8) == 0 {
			l[r.Intn(len(l))] = []float64{inf, -inf, nan, odd, 0, minus}[r.Intn(6)]
		}
		s, want := exact.New(), shadowOf()
		for _, x := range l {
			s.Add(x)
			want.add(x)
			agree(t, l, s, want)
		}
		if t.Failed() {
			t.FailNow()
		}
	}
}

func TestAnyOrder(t *testing.T) { // 9.7
	r := rand.New(rand.NewSource(2))
	for range 1000 {
		l := someFloats(r, 1+r.Intn(40))
		if r.Intn(3) == 0 {
			l = append(l, []float64{inf, -inf, nan, 0, minus}[r.Intn(5)])
		}
		if r.Intn(10) == 0 {
			l = slices.Repeat([]float64{minus}, len(l))
		}
		want := of(l...).Text()
		r.Shuffle(len(l), func(i, j int) { l[i], l[j] = l[j], l[i] })
		if got := of(l...).Text(); got != want {
			t.Fatalf("%v: %q, in another order %q", l, want, got)
		}
		parts := make([]*exact.Sum, 1+r.Intn(5))
		for i := range parts {
			parts[i] = exact.New()
		}
		for _, x := range l {
			parts[r.Intn(len(parts))].Add(x)
		}
		for len(parts) > 1 { // some to some other
			i, last := r.Intn(len(parts)-1), len(parts)-1
			if why := parts[i].Merge(parts[last]); why != api.OK {
				t.Fatal("Merge: error", why)
			}
			parts = parts[:last]
		}
		if got := parts[0].Text(); got != want {
			t.Fatalf("%v: %q, in parts %q", l, want, got)
		}
	}
}

func TestMerge(t *testing.T) { // 9.1
	all := [][]float64{nil, {0}, {minus}, {minus, minus}, {1}, {-1}, {greatest, 1}, {-greatest}, {least, -1e10}, {inf}, {-inf, 5}, {nan}, {inf, -inf, nan}}
	for _, a := range all {
		for _, b := range all {
			s, o := of(a...), of(b...)
			text := o.Text()
			if why := s.Merge(o); why != api.OK {
				t.Errorf("Merge: error %d", why)
			}
			agree(t, [][]float64{a, b}, s, shadowOf(append(slices.Clip(a), b...)...))
			if o.Text() != text {
				t.Errorf("%v, that was merged: %q", b, o.Text())
			}
			text = s.Text()
			o.Add(-3)
			o.Add(1e300)
			o.Merge(of(inf, -inf, nan, 7))
			if s.Text() != text {
				t.Errorf("%v hangs on %v, that was merged to it", a, b)
			}
			text = o.Text()
			s.Add(1e301)
			if o.Text() != text {
				t.Errorf("%v, that was merged, hangs on %v", b, a)
			}
		}
	}
}

// Of a sum that is merged to itself all is doubled: however great it gets, and till its count goes round.
func TestMergeItself(t *testing.T) { // 9.1 to 9.3
	for _, l := range [][]float64{{1}, {-1}, {0.1, 0.2, -5e-320}, {-greatest, least}, {minus}, {minus, 0}, {1, inf}, {nan}, {0x1p-1011}, {-0x1p-1011}} {
		s, want := of(l...), shadowOf(l...)
		for range 200 {
			if why := s.Merge(s); why != api.OK {
				t.Fatal("Merge: error", why)
			}
			want.n.Lsh(&want.n, 1)
			want.count *= 2
			agree(t, l, s, want)
		}
		for range 5 { // its count is 0, but it still has what was added
			s.Merge(of(-3, minus))
			want.n.Add(&want.n, units(-3))
			want.count, want.some = want.count+2, true
			agree(t, l, s, want)
		}
		if t.Failed() {
			t.FailNow()
		}
	}
}

func TestWrappedCount(t *testing.T) { // 9.1 to 9.3
	s := parsed(t, "0 -0 18446744073709551615")
	if !same(s.Value(), minus) || !same(s.Mean(), minus) || s.Count() != math.MaxUint64 {
		t.Error(s.Value(), s.Mean(), s.Count())
	}
	s.Add(minus)
	if s.Count() != 0 || !same(s.Value(), 0) || !same(s.Mean(), nan) || s.Text() != "0 0" {
		t.Error("behind all:", s.Count(), s.Value(), s.Mean(), s.Text())
	}
	s.Add(minus)
	if s.Text() != "0 -0 1" {
		t.Error("one more:", s.Text())
	}
	s = parsed(t, "-5 +inf 18446744073709551615")
	s.Add(2 * least)
	if s.Count() != 0 || !same(s.Value(), inf) || !same(s.Mean(), nan) || s.Text() != "-3 +inf 0" {
		t.Error("with an infinity:", s.Count(), s.Value(), s.Mean(), s.Text())
	}
}

// sumOf is a sum by its text: so many least floats, and a count.
func sumOf(t *testing.T, n *big.Int, count string) *exact.Sum {
	t.Helper()
	return parsed(t, n.Text(16)+" "+count)
}

// The nearest float changes at the half between two: there the even one is nearest, and by the least below and above it the one on that side.
func TestNearest(t *testing.T) { // 9.1, 9.2, 9.8
	for power := range 2047 {
		for _, part := range []uint64{0, 1, 2, 1<<51 - 1, 1 << 51, 1<<52 - 2, 1<<52 - 1} {
			word := uint64(power)<<52 + part
			a, b := math.Float64frombits(word), math.Float64frombits(word+1) // behind the greatest float the infinity
			step := new(big.Int).Lsh(big.NewInt(1), uint(max(power, 1)-1))
			twice := step.Add(step, units(a))
			twice.Add(twice, units(a))
			for d, want := range []float64{a, even(a, b), b} {
				n := new(big.Int).Add(twice, big.NewInt(int64(d-1)))
				nearest(t, sumOf(t, n, "2").Mean(), want)
				nearest(t, sumOf(t, n.Neg(n), "2").Mean(), -want)
				if power < 2 {
					continue // the half is no whole number of least floats
				}
				n.Add(n.Rsh(twice, 1), big.NewInt(int64(d-1)))
				nearest(t, sumOf(t, n, "1").Value(), want)
				nearest(t, sumOf(t, n.Neg(n), "1").Value(), -want)
			}
		}
		if t.Failed() {
			t.FailNow()
		}
	}
}

func nearest(t *testing.T, got, want float64) {
	t.Helper()
	if want == 0 {
		want = 0 // not -0
	}
	if !same(got, want) {
		t.Errorf("the nearest float: %v, want %v", got, want)
	}
}

// even is the one of two neighbours whose last bit is 0.
func even(a, b float64) float64 {
	if math.Float64bits(a)%2 == 0 {
		return a
	}
	return b
}

func TestOneFloat(t *testing.T) { // 9.8
	r := rand.New(rand.NewSource(3))
	l := []float64{0, minus, least, -least, greatest, -greatest, inf, -inf, 0x1p-1022, 0x1p-1022 - least, 1, -1}
	for range 3000 {
		l = append(l, someFloats(r, 3)...)
	}
	for _, x := range l {
		s := of(x)
		if !same(s.Value(), x) || !same(s.Mean(), x) {
			t.Fatalf("%v alone: Value %v, Mean %v", x, s.Value(), s.Mean())
		}
	}
}

// A mean of any count: what is left by the division counts, too.
func TestMean(t *testing.T) { // 9.2
	r := rand.New(rand.NewSource(4))
	for range 6000 {
		want := &shadow{some: true, count: max(1, r.Uint64()>>r.Intn(64))}
		if r.Intn(8) == 0 {
			want.count = math.MaxUint64 - uint64(r.Intn(2))
		}
		n := new(big.Int).Rand(r, new(big.Int).Lsh(big.NewInt(1), uint(r.Intn(2300))))
		if r.Intn(2) == 0 { // that is near a half, if it is one of few bits
			n.Lsh(n.Rsh(n, uint(max(0, n.BitLen()-54))), uint(r.Intn(2200)))
			n.Mul(n, new(big.Int).SetUint64(want.count))
			n.Add(n, big.NewInt(int64(r.Intn(3)-1)))
		}
		if r.Intn(2) == 0 {
			n.Neg(n)
		}
		want.n.Set(n)
		if s := sumOf(t, n, new(big.Int).SetUint64(want.count).String()); !same(s.Mean(), want.divided(want.count)) || !same(s.Value(), want.divided(1)) {
			t.Fatalf("%s of %d: Mean %v, want %v; Value %v, want %v", n.Text(16), want.count, s.Mean(), want.divided(want.count), s.Value(), want.divided(1))
		}
	}
}

// A mean beside a half by less than a word's bits behind the point tell.
func TestMeanBesideHalf(t *testing.T) { // 9.2
	for _, count := range []uint64{3, 5, 1<<32 + 1, 1<<63 - 1, 1<<63 + 1, math.MaxUint64 - 2, math.MaxUint64} {
		for _, whole := range []float64{0, 1, 2, 3, 1<<52 - 1, 1 << 52, 1<<53 - 2, 1<<53 - 1} {
			n := new(big.Int).SetUint64(count)
			n.Mul(n, big.NewInt(int64(whole)))
			n.Add(n, new(big.Int).SetUint64(count/2)) // below the half, as the count is odd
			text := new(big.Int).SetUint64(count).String()
			nearest(t, sumOf(t, n, text).Mean(), whole*least)
			n.Add(n, big.NewInt(1))
			nearest(t, sumOf(t, n, text).Mean(), (whole+1)*least)
			nearest(t, sumOf(t, n.Neg(n), text).Mean(), -(whole+1)*least)
		}
	}
}

func TestTakenBack(t *testing.T) { // 9.9
	r := rand.New(rand.NewSource(5))
	for range 2000 {
		l := someFloats(r, r.Intn(6))
		s := of(l...)
		n, _, _ := strings.Cut(s.Text(), " ")
		for _, x := range someFloats(r, 1+r.Intn(4)) {
			s.Add(x)
			s.Add(-x)
			if got, _, _ := strings.Cut(s.Text(), " "); got != n {
				t.Fatalf("%v, and %v taken back: %q, was %q", l, x, got, n)
			}
		}
	}
}

func TestNil(t *testing.T) { // 9.6, P1
	var s *exact.Sum
	if s.Add(1) != api.ErrNil || s.Merge(exact.New()) != api.ErrNil || s.Merge(nil) != api.ErrNil {
		t.Error("a nil sum takes something")
	}
	if !same(s.Value(), nan) || !same(s.Mean(), nan) || s.Text() != "" || s.Count() != 0 {
		t.Error("a nil sum:", s.Value(), s.Mean(), s.Text(), s.Count())
	}
	o := of(1, 2)
	if why := o.Merge(nil); why != api.ErrNil || o.Text() != of(1, 2).Text() {
		t.Error("a nil sum merged:", why, o.Text())
	}
}
