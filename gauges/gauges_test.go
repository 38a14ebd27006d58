package gauges_test

import (
	"math"
	"testing"

	"abacus/api"
	"abacus/gauges"
)

const noNumber = 0x7ff8000000000001

var (
	inf   = math.Inf(1)
	minus = math.Copysign(0, -1)
	nan   = math.NaN()
)

// odd are floats that are no number, of several patterns.
func odd() []float64 {
	var l []float64
	for _, b := range []uint64{noNumber, 0x7ff8000000000000, 0xfff8000000000001, 0x7ff0000000000001, 0xfff0000000000001, 0x7fffffffffffffff, 0xffffffffffffffff} {
		l = append(l, math.Float64frombits(b))
	}
	return l
}

// ladder are numbers, each above the one ahead of it.
func ladder() []float64 {
	return []float64{-inf, -math.MaxFloat64, -2, math.Nextafter(-1, -2), -1, -math.SmallestNonzeroFloat64, minus,
		0, math.SmallestNonzeroFloat64, 0x1p-1022, 0.1, 1, math.Nextafter(1, 2), 1 << 53, math.MaxFloat64, inf}
}

// same holds floats against each other bit by bit, as the document has them told.
func same(a, b float64) bool {
	return math.Float64bits(a) == math.Float64bits(b)
}

func has(x float64) *gauges.Gauge {
	g := gauges.New()
	g.Set(x)
	return g
}

func TestBits(t *testing.T) { // 3.1
	for _, x := range odd() {
		if got := gauges.Bits(x); got != noNumber {
			t.Errorf("Bits of %x: %x", math.Float64bits(x), got)
		}
	}
	for _, x := range ladder() {
		if got := gauges.Bits(x); got != math.Float64bits(x) {
			t.Errorf("Bits(%v): %x", x, got)
		}
	}
	if gauges.Bits(minus) == gauges.Bits(0) {
		t.Error("Bits of -0 are those of 0")
	}
}

func TestAbove(t *testing.T) { // 3.1
	l := ladder()
	for i, a := range l {
		for j, b := range l {
			if gauges.Above(a, b) != (i > j) {
				t.Errorf("Above(%v, %v): %v", a, b, i <= j)
			}
		}
		for _, n := range odd() {
			if !gauges.Above(a, n) || gauges.Above(n, a) {
				t.Errorf("what is no number does not stand below %v", a)
			}
		}
	}
	for _, a := range odd() {
		for _, b := range odd() {
			if gauges.Above(a, b) {
				t.Errorf("%x stands above %x", math.Float64bits(a), math.Float64bits(b))
			}
		}
	}
}

func TestNew(t *testing.T) { // 3.1
	if g := gauges.New(); g == nil || !same(g.Get(), 0) {
		t.Error("New has not 0")
	}
}

func TestSetAndGet(t *testing.T) { // 3.1
	g := gauges.New()
	for _, x := range append(ladder(), odd()...) {
		want := math.Float64frombits(gauges.Bits(x))
		if a, b, c := g.Set(x), g.Get(), g.Get(); !same(a, want) || !same(b, want) || !same(c, want) {
			t.Errorf("Set of %x answers %x, then Get %x, %x", math.Float64bits(x), math.Float64bits(a), math.Float64bits(b), math.Float64bits(c))
		}
	}
}

func TestAdd(t *testing.T) { // 3.1
	for _, x := range []struct{ has, add, want float64 }{
		{0, 1.5, 1.5},
		{1.5, -1.5, 0},
		{-1.5, 1.5, 0},
		{minus, minus, minus},
		{minus, 0, 0},
		{0, minus, 0},
		{0.1, 0.2, 0.30000000000000004},
		{1, 0x1p-53, 1}, // half of what would be needed: to even
		{1 + 0x1p-52, 0x1p-53, 1 + 0x1p-51},
		{1 << 53, 1, 1 << 53},
		{math.MaxFloat64, math.MaxFloat64, inf},
		{math.SmallestNonzeroFloat64, -math.SmallestNonzeroFloat64, 0},
		{inf, 1, inf},
		{inf, inf, inf},
		{inf, -inf, nan},
		{-inf, inf, nan},
		{nan, 1, nan},
		{1, odd()[3], nan},
		{odd()[5], odd()[6], nan},
	} {
		g := has(x.has)
		if got := g.Add(x.add); !same(got, math.Float64frombits(gauges.Bits(x.want))) || !same(g.Get(), got) {
			t.Errorf("%v, Add(%v) = %v (%x), want %v", x.has, x.add, got, math.Float64bits(got), x.want)
		}
	}
}

func TestMaxAndMin(t *testing.T) { // 3.1
	l := ladder()
	for i, v := range l {
		for j, x := range l {
			g := has(v)
			if got := g.Max(x); !same(got, l[max(i, j)]) || !same(g.Get(), got) {
				t.Errorf("%v, Max(%v) = %v, then %v", v, x, got, g.Get())
			}
			g = has(v)
			if got := g.Min(x); !same(got, l[min(i, j)]) || !same(g.Get(), got) {
				t.Errorf("%v, Min(%v) = %v, then %v", v, x, got, g.Get())
			}
		}
	}
}

func TestMaxAndMinOfNoNumber(t *testing.T) { // 3.1
	for _, n := range odd() {
		for _, x := range ladder() {
			for name, do := range map[string]func(g *gauges.Gauge, x float64) float64{"Max": (*gauges.Gauge).Max, "Min": (*gauges.Gauge).Min} {
				g := has(n)
				if got := do(g, x); !same(got, x) || !same(g.Get(), x) {
					t.Errorf("no number, %s(%v) = %v, then %v", name, x, got, g.Get())
				}
				if got := do(g, n); !same(got, x) || !same(g.Get(), x) {
					t.Errorf("%v, %s of no number = %v, then %v", x, name, got, g.Get())
				}
				g = has(n)
				if got := do(g, n); gauges.Bits(got) != noNumber || math.Float64bits(g.Get()) != noNumber || math.Float64bits(got) != noNumber {
					t.Errorf("no number, %s of no number = %x, then %x", name, math.Float64bits(got), math.Float64bits(g.Get()))
				}
			}
		}
	}
}

func TestExamples(t *testing.T) { // examples 1 and 2
	g := gauges.New()
	for i, x := range []struct{ got, want float64 }{
		{g.Add(1.5), 1.5}, {g.Max(0.5), 1.5}, {g.Min(0.5), 0.5}, {g.Set(minus), minus}, {g.Max(0), 0}, {g.Max(minus), 0}, {g.Min(minus), minus},
		{g.Set(nan), nan}, {g.Max(-inf), -inf}, {g.Set(nan), nan}, {g.Max(nan), nan}, {g.Set(0), 0}, {g.Add(inf), inf}, {g.Add(-inf), nan},
	} {
		if !same(x.got, x.want) {
			t.Errorf("call %d: %v (%x), want %v", i, x.got, math.Float64bits(x.got), x.want)
		}
	}
	if math.Float64bits(g.Get()) != noNumber {
		t.Errorf("inf less inf: %x", math.Float64bits(g.Get()))
	}
}

func TestNil(t *testing.T) { // 3.4
	var g *gauges.Gauge
	if !same(g.Get(), 0) || !same(g.Set(1), 0) || !same(g.Add(1), 0) || !same(g.Max(1), 0) || !same(g.Min(-1), 0) {
		t.Error("a nil gauge answers something")
	}
	for _, op := range []api.GaugeOp{{Kind: api.GaugeGet}, {}, {Kind: api.GaugeGet, X: 1}} {
		if p, why := g.Start(op); p != nil || why != api.ErrNil {
			t.Errorf("Start(%v) of a nil gauge: error %d", op, why)
		}
	}
	var p *gauges.Pending
	for range 2 {
		if did, ended := p.Step(); did != (api.Did{}) || !ended {
			t.Error("Step of a nil operation:", did, ended)
		}
	}
	if !p.Done() || !same(p.Answer(), 0) {
		t.Error("a nil operation:", p.Done(), p.Answer())
	}
}

func TestTwoGaugesAreApart(t *testing.T) { // P4
	a, b := has(1), has(1)
	a.Set(5)
	p, _ := a.Start(api.GaugeOp{Kind: api.GaugeAdd, X: 1})
	p.Step()
	if b.Get() != 1 {
		t.Error("what is put into one is in the other")
	}
}
