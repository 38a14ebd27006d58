package exact_test

import (
	"math"
	"math/big"
	"math/rand"
	"slices"
	"testing"

	"abacus/exact"
)

func two(t *testing.T, a, b, sum, missing float64) {
	t.Helper()
	if x, y := exact.Two(a, b); !same(x, sum) || !same(y, missing) {
		t.Errorf("Two(%v, %v): %v, %v, want %v, %v", a, b, x, y, sum, missing)
	}
}

func TestTwo(t *testing.T) { // 9.4, 9.10, and example 3
	for _, x := range []struct{ a, b, sum, missing float64 }{
		{1, 0x1p-60, 1, 0x1p-60},
		{0x1p53, 1, 0x1p53, 1},
		{0x1p53, -1, 0x1p53 - 1, 0},
		{0.1, 0.2, 0.30000000000000004, -2.7755575615628914e-17},
		{0, 0, 0, 0},
		{minus, minus, minus, 0},
		{minus, 0, 0, 0},
		{5, -5, 0, 0},
		{1, minus, 1, 0},
		{least, -1, -1, least},
		{least, least, 2 * least, 0},
		{greatest, 1, greatest, 1},
		{greatest, -1, greatest, -1},
		{greatest, -least, greatest, -least},
		{greatest, 0x1p969, greatest, 0x1p969},
		{greatest, -0x1p969, greatest, -0x1p969}, // a quarter of what its last bit counts
		{greatest, -0x1p970, 0x1.ffffffffffffep1023, 0x1p970},
		{greatest, -0x1.8p970, 0x1.ffffffffffffep1023, 0x1p969},
		{greatest, -greatest, 0, 0},
		{greatest, -greatest / 2, greatest / 2, 0},
		{0x1p1022, 0x1.fffffffffffffp1022, 0x1.8p1023, -0x1p970},
		{0x1p1023, 0x1.fffffffffffffp1022, inf, 0}, // the half: the even one is beyond the greatest
		// Where there is nothing that may be missing.
		{greatest, greatest, inf, 0},
		{-greatest, -0x1p970, -inf, 0},
		{inf, 1, inf, 0},
		{1, -inf, -inf, 0},
		{inf, -inf, nan, 0},
		{inf, inf, inf, 0},
		{nan, 1, nan, 0},
		{1, odd, nan, 0},
		{odd, inf, nan, 0},
	} {
		two(t, x.a, x.b, x.sum, x.missing)
		two(t, x.b, x.a, x.sum, x.missing)
	}
}

// missing is what a + b lacks, by big numbers.
func missing(a, b float64) float64 {
	n := new(big.Int).Add(units(a), units(b))
	n.Sub(n, units(a+b))
	x, how := new(big.Float).SetMantExp(new(big.Float).SetInt(n), -1074).Float64()
	if how != big.Exact {
		panic("what is missing is no float")
	}
	return x
}

func TestTwoOfAny(t *testing.T) { // 9.4, 9.10
	r := rand.New(rand.NewSource(9))
	for range 40000 {
		l := someFloats(r, 2)
		if r.Intn(2) == 0 { // of like size, so that bits are missing
			l[1] = math.Ldexp(l[0], r.Intn(120)-60) * (1 + r.Float64())
		}
		a, b := l[0], l[1]
		sum := a + b
		if math.IsInf(b, 0) || math.IsInf(sum, 0) {
			two(t, a, b, sum, 0)
			continue
		}
		two(t, a, b, sum, missing(a, b))
		x, y := exact.Two(a, b)
		p, _ := new(big.Int).SetString(number(of(x, y)), 16)
		q, _ := new(big.Int).SetString(number(of(a, b)), 16)
		if p.Cmp(q) != 0 {
			t.Fatalf("Two(%v, %v) has another sum", a, b)
		}
	}
}

// number is the whole number of a sum's text.
func number(s *exact.Sum) string {
	text := s.Text()
	return text[:slices.Index([]byte(text), ' ')]
}

// The sums in floats as the document tells them, each step by itself.
func naive(l []float64) float64 {
	sum := 0.0
	for _, x := range l {
		sum = sum + x
	}
	return sum
}

func kahan(l []float64) float64 {
	s, c := 0.0, 0.0
	for _, x := range l {
		t := s + x
		if math.Abs(s) >= math.Abs(x) {
			d := s - t
			d = d + x
			c = c + d
		} else {
			d := x - t
			d = d + s
			c = c + d
		}
		s = t
	}
	if math.IsInf(c, 0) || math.IsNaN(c) {
		return s
	}
	return s + c
}

func pairs(l []float64) float64 {
	switch n := len(l); n {
	case 0:
		return 0
	case 1:
		return l[0]
	default:
		return pairs(l[:n/2]) + pairs(l[n/2:])
	}
}

func sums(t *testing.T, l []float64, wants ...float64) {
	t.Helper()
	kept := slices.Clone(l)
	if got := exact.Naive(l); !same(got, wants[0]) {
		t.Errorf("Naive(%v): %v, want %v", l, got, wants[0])
	}
	if got := exact.Kahan(l); !same(got, wants[1]) {
		t.Errorf("Kahan(%v): %v, want %v", l, got, wants[1])
	}
	if got := exact.Pairs(l); !same(got, wants[2]) {
		t.Errorf("Pairs(%v): %v, want %v", l, got, wants[2])
	}
	for i, x := range l {
		if math.Float64bits(x) != math.Float64bits(kept[i]) {
			t.Fatalf("what was handed in is changed: %v, was %v", l, kept)
		}
	}
}

func TestSumsInFloats(t *testing.T) { // 9.4
	for _, x := range []struct {
		l                   []float64
		naive, kahan, pairs float64
	}{
		{nil, 0, 0, 0},
		{[]float64{}, 0, 0, 0},
		{[]float64{minus}, 0, 0, minus},
		{[]float64{minus, minus}, 0, 0, minus},
		{[]float64{1, 2, 3}, 6, 6, 6},
		{[]float64{1e100, 1, -1e100}, 0, 1, 0},
		{[]float64{1, 1e100, 1, -1e100}, 0, 2, 0},
		{slices.Repeat([]float64{0.1}, 10), 0.9999999999999999, 1, 1},
		{[]float64{0x1p53, 1, 1}, 0x1p53, 0x1p53 + 2, 0x1p53 + 2}, // the first half is the lesser one
		{[]float64{1, 1, 0x1p53}, 0x1p53 + 2, 0x1p53 + 2, 0x1p53},
		{[]float64{1, 1, 0x1p53, 0, 0}, 0x1p53 + 2, 0x1p53 + 2, 0x1p53 + 2},
		{[]float64{1, 0x1p-53, 0x1p-53}, 1, 1 + 0x1p-52, 1 + 0x1p-52},
		{[]float64{-0x1p-53, -0x1p-54, 1}, 1 - 0x1p-52, 1 - 0x1p-52, 1 - 0x1p-53},
		// What is missing is no number or infinite: it is left out.
		{[]float64{inf, 1}, inf, inf, inf},
		{[]float64{1, -inf}, -inf, -inf, -inf},
		{[]float64{inf, -inf}, nan, nan, nan},
		{[]float64{1, nan}, nan, nan, nan},
		{[]float64{odd}, nan, nan, nan},
		{[]float64{odd, 1}, nan, nan, nan},
		{[]float64{greatest, greatest}, inf, inf, inf},
		{[]float64{greatest, greatest, -greatest}, inf, inf, greatest},
		{[]float64{greatest, greatest, -inf}, nan, nan, -inf},
	} {
		sums(t, x.l, x.naive, x.kahan, x.pairs)
	}
}

func TestSumsInFloatsOfAny(t *testing.T) { // 9.4
	r := rand.New(rand.NewSource(10))
	unlike := 0
	for range 6000 {
		l := someFloats(r, r.Intn(40))
		if len(l) > 0 && r.Intn(10) == 0 {
			l[r.Intn(len(l))] = []float64{inf, -inf, nan, odd, minus}[r.Intn(5)]
		}
		sums(t, l, naive(l), kahan(l), pairs(l))
		if naive(l) != kahan(l) && kahan(l) != pairs(l) && naive(l) != pairs(l) {
			unlike++
		}
	}
	if unlike == 0 {
		t.Error("all three ways are always alike")
	}
}
