package quant_test

import (
	"math"
	"math/big"
	"math/rand"
	"slices"
	"testing"

	"abacus/api"
	"abacus/quant"
)

var (
	inf, nan, minus = math.Inf(1), math.NaN(), math.Copysign(0, -1)
	odd             = math.Float64frombits(0xfff0000000000005) // no number either, by other bits
)

// place is a number by which floats stand in order: that of their bits, turned where the sign is set.
func place(x float64) int64 {
	word := int64(math.Float64bits(x))
	if word < 0 {
		return math.MinInt64 - word - 1
	}
	return word
}

func sorted(l []float64) []float64 {
	l = slices.Clone(l)
	slices.SortFunc(l, func(a, b float64) int {
		switch pa, pb := place(a), place(b); {
		case pa < pb:
			return -1
		case pa > pb:
			return 1
		}
		return 0
	})
	return l
}

// same tells whether a float that was answered is another one, bit by bit; of what is no number there is one.
func same(got, want float64) bool {
	if math.IsNaN(want) {
		return math.Float64bits(got) == 0x7ff8000000000001
	}
	return math.Float64bits(got) == math.Float64bits(want)
}

// partOf is the part num / den of n, by big numbers.
func partOf(num, den, n int64) int64 {
	p := new(big.Int).Mul(big.NewInt(num), big.NewInt(n))
	p.Add(p, big.NewInt(den-1))
	p.Div(p, big.NewInt(den))
	return max(1, p.Int64())
}

// someFloats are floats of which some come again, and some differ by their last bit alone.
func someFloats(r *rand.Rand, n int) []float64 {
	l := make([]float64, n)
	for i := range l {
		switch r.Intn(4) {
		case 0:
			l[i] = []float64{0, minus, inf, -inf, 1, -1, math.MaxFloat64, -math.MaxFloat64, 5e-324, -5e-324}[r.Intn(10)]
		case 1:
			l[i] = float64(r.Intn(7) - 3)
		case 2:
			l[i] = math.Float64frombits(0x3ff0000000000000 + uint64(r.Intn(3)))
		case 3:
			l[i] = r.NormFloat64()
		}
	}
	return l
}

func rank(t *testing.T, l []float64, x float64, below, most int, why api.Errno) {
	t.Helper()
	if b, m, e := quant.Rank(l, x); b != below || m != most || e != why {
		t.Errorf("Rank(%v, %v): %d, %d, error %d, want %d, %d, error %d", l, x, b, m, e, below, most, why)
	}
}

func TestRank(t *testing.T) { // 11.1, example 1
	rank(t, []float64{1, 2, 2, 3}, 2, 1, 3, api.OK)
	rank(t, []float64{3, 2, 1, 2}, 2.5, 3, 3, api.OK)
	rank(t, []float64{3, 2, 1, 2}, 0, 0, 0, api.OK)
	rank(t, []float64{3, 2, 1, 2}, 4, 4, 4, api.OK)
	rank(t, nil, 2, 0, 0, api.OK)
	rank(t, []float64{}, inf, 0, 0, api.OK)
	rank(t, []float64{0, minus, 0}, 0, 1, 3, api.OK)
	rank(t, []float64{0, minus, 0}, minus, 0, 1, api.OK)
	rank(t, []float64{inf, -inf, 0}, inf, 2, 3, api.OK)
	rank(t, []float64{inf, -inf, 0}, -inf, 0, 1, api.OK)
	rank(t, []float64{1}, nan, 0, 0, api.ErrNumber)
	rank(t, nil, odd, 0, 0, api.ErrNumber)
	rank(t, []float64{1, 2, nan}, 1, 0, 0, api.ErrNumber)
	rank(t, []float64{odd, 1, 2}, 5, 0, 0, api.ErrNumber)
}

func nth(t *testing.T, l []float64, k int, want float64, why api.Errno) {
	t.Helper()
	if x, e := quant.Nth(l, k); !same(x, want) || e != why {
		t.Errorf("Nth(%v, %d): %v, error %d, want %v, error %d", l, k, x, e, want, why)
	}
}

func TestNth(t *testing.T) { // 11.1, example 1
	nth(t, []float64{3, 1, 2}, 2, 2, api.OK)
	nth(t, []float64{3, 1, 2}, 1, 1, api.OK)
	nth(t, []float64{3, 1, 2}, 3, 3, api.OK)
	nth(t, []float64{0, minus}, 1, minus, api.OK)
	nth(t, []float64{0, minus}, 2, 0, api.OK)
	nth(t, []float64{inf, 5, -inf}, 1, -inf, api.OK)
	nth(t, []float64{inf, 5, -inf}, 3, inf, api.OK)
	for _, k := range []int{0, -1, 4, math.MaxInt, math.MinInt} {
		nth(t, []float64{3, 1, 2}, k, 0, api.ErrRange)
		nth(t, []float64{3, nan, 2}, k, 0, api.ErrNumber)
	}
	nth(t, nil, 0, 0, api.ErrRange)
	nth(t, nil, 1, 0, api.ErrRange)
	nth(t, []float64{3, odd, 2}, 1, 0, api.ErrNumber)
}

func quantile(t *testing.T, l []float64, num, den int, want float64, why api.Errno) {
	t.Helper()
	if x, e := quant.Quantile(l, num, den); !same(x, want) || e != why {
		t.Errorf("Quantile(%v, %d, %d): %v, error %d, want %v, error %d", l, num, den, x, e, want, why)
	}
}

func TestQuantile(t *testing.T) { // 11.1, example 1
	l := []float64{4, 3, 2, 1}
	quantile(t, l, 1, 2, 2, api.OK)
	quantile(t, l, 0, 1, 1, api.OK)
	quantile(t, l, 1, 4, 1, api.OK)
	quantile(t, l, 26, 100, 2, api.OK) // a little more than a quarter
	quantile(t, l, 1<<28, 1<<30, 1, api.OK)
	quantile(t, l, 1<<28+1, 1<<30, 2, api.OK)
	quantile(t, l, 1<<30-1, 1<<30, 4, api.OK)
	quantile(t, l, 1<<30, 1<<30, 4, api.OK)
	quantile(t, l, 1, 1, 4, api.OK)
	quantile(t, []float64{0, minus}, 1, 2, minus, api.OK)
	for _, x := range [][2]int{{0, 0}, {1, 0}, {0, -1}, {-1, 1}, {2, 1}, {3, 2}, {1, 1<<30 + 1}, {-1, -1}, {math.MinInt, 5}, {math.MaxInt, math.MaxInt}, {0, math.MinInt}} {
		quantile(t, l, x[0], x[1], 0, api.ErrRange)
		quantile(t, nil, x[0], x[1], 0, api.ErrNone)
		quantile(t, []float64{1, odd}, x[0], x[1], 0, api.ErrNumber)
	}
	quantile(t, []float64{}, 1, 2, 0, api.ErrNone)
	quantile(t, []float64{nan}, 1, 2, 0, api.ErrNumber)
}

func linear(t *testing.T, l []float64, q, want float64, why api.Errno) {
	t.Helper()
	if x, e := quant.Linear(l, q); !same(x, want) || e != why {
		t.Errorf("Linear(%v, %v): %v, error %d, want %v, error %d", l, q, x, e, want, why)
	}
}

func TestLinear(t *testing.T) { // 11.1, example 1
	l := []float64{4, 3, 2, 1}
	linear(t, l, 0.5, 2.5, api.OK)
	linear(t, l, 0, 1, api.OK)
	linear(t, l, minus, 1, api.OK)
	linear(t, l, 1, 4, api.OK)
	linear(t, l, 5e-324, 1, api.OK)
	linear(t, l, math.Nextafter(1, 0), 4-0x1p-51, api.OK)
	linear(t, []float64{7}, 0.3, 7, api.OK)
	linear(t, []float64{7}, 1, 7, api.OK)
	linear(t, []float64{minus, 0, minus}, 0.5, minus, api.OK) // the one in the midst, as it is
	linear(t, []float64{minus, minus}, 0.5, 0, api.OK)        // the step of 0 is added
	linear(t, []float64{0.1, 0.7}, 0.3, 0.1+float64(0.3*(0.7-float64(0.1))), api.OK)
	linear(t, []float64{-math.MaxFloat64, math.MaxFloat64}, 0.5, inf, api.OK) // b - a is beyond all floats
	linear(t, []float64{1, inf}, 0.5, inf, api.OK)
	linear(t, []float64{-inf, 1}, 0.5, nan, api.OK)
	linear(t, []float64{inf, inf}, 0.5, nan, api.OK)
	linear(t, []float64{-inf, inf}, 0.5, nan, api.OK)
	linear(t, []float64{-inf, inf}, 0, -inf, api.OK)
	linear(t, []float64{-inf, inf}, 1, inf, api.OK)
	for _, q := range []float64{-5e-324, math.Nextafter(1, 2), -1, 2, inf, -inf} {
		linear(t, l, q, 0, api.ErrRange)
		linear(t, nil, q, 0, api.ErrNone)
		linear(t, []float64{1, nan}, q, 0, api.ErrNumber)
	}
	for _, q := range []float64{nan, odd} {
		linear(t, l, q, 0, api.ErrNumber)
		linear(t, nil, q, 0, api.ErrNumber)
	}
	linear(t, []float64{}, 0.5, 0, api.ErrNone)
}

// between is what Linear answers of a list in order, step by step.
func between(l []float64, q float64) float64 {
	n := float64(len(l) - 1)
	h := q * n
	whole := math.Floor(h)
	a, b := l[int(whole)], l[min(int(whole)+1, len(l)-1)]
	if h == whole {
		return a
	}
	step := b - a
	part := h - whole
	more := part * step
	return a + more
}

func TestAnyLists(t *testing.T) { // 11.1, 11.9
	r := rand.New(rand.NewSource(1))
	for range 3000 {
		l := someFloats(r, 1+r.Intn(20))
		kept := slices.Clone(l)
		want := sorted(l)
		for k := range want {
			nth(t, l, k+1, want[k], api.OK)
			if below, most, _ := quant.Rank(l, want[k]); below > k || most < k+1 {
				t.Errorf("Nth of %v at %d has the ranks %d, %d", l, k+1, below, most)
			}
		}
		for _, x := range someFloats(r, 5) {
			below := slices.IndexFunc(append(slices.Clone(want), nan), func(y float64) bool { return place(y) >= place(x) || math.IsNaN(y) })
			most := slices.IndexFunc(append(slices.Clone(want), nan), func(y float64) bool { return place(y) > place(x) || math.IsNaN(y) })
			rank(t, l, x, below, most, api.OK)
		}
		den := 1 + r.Intn(1<<(1+r.Intn(30)))
		num := r.Intn(den + 1)
		quantile(t, l, num, den, want[partOf(int64(num), int64(den), int64(len(l)))-1], api.OK)
		q := []float64{r.Float64(), float64(r.Intn(len(l))) / float64(max(1, len(l)-1))}[r.Intn(2)]
		linear(t, l, q, between(want, q), api.OK)
		linear(t, l, 0, want[0], api.OK)
		linear(t, l, 1, want[len(want)-1], api.OK)
		if !slices.EqualFunc(l, kept, same) {
			t.Fatalf("what was handed in is changed: %v, was %v", l, kept)
		}
		if t.Failed() {
			t.FailNow()
		}
	}
}
