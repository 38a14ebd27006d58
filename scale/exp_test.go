package scale_test

import (
	"math"
	"math/big"
	"math/rand"
	"testing"

	"abacus/api"
	"abacus/scale"
)

const least, greatest = math.SmallestNonzeroFloat64, math.MaxFloat64

var minus = math.Copysign(0, -1)

func at(t *testing.T, schema int, x float64, sign, index int) {
	t.Helper()
	if got, why := scale.Exp(schema, x); got != (api.ExpAt{Sign: sign, Index: index}) || why != api.OK {
		t.Errorf("Exp(%d, %v): %v, error %d, want %d, %d", schema, x, got, why, sign, index)
	}
}

func upTo(t *testing.T, schema, index int, want float64) {
	t.Helper()
	if got, why := scale.Upper(schema, index); math.Float64bits(got) != math.Float64bits(want) || why != api.OK {
		t.Errorf("Upper(%d, %d): %v, error %d, want %v", schema, index, got, why, want)
	}
}

func TestExamplesOfFloats(t *testing.T) { // examples 3 and 4
	at(t, 0, 1, 1, 0)
	at(t, 0, 1.5, 1, 1)
	at(t, 0, 2, 1, 1)
	at(t, 0, -0.25, -1, -2)
	at(t, 1, 2, 1, 2)
	at(t, 1, 1.5, 1, 2)
	at(t, 1, 1.4, 1, 1)
	at(t, -1, 5, 1, 2)
	at(t, 3, 0, 0, 0)
	at(t, 3, minus, 0, 0)
	upTo(t, 0, 3, 8)
	upTo(t, 1, 1, 1.4142135623730949)
	upTo(t, 0, 1024, greatest)
	upTo(t, 0, -1075, 0)
	if first, last, why := scale.Ends(0); first != -1074 || last != 1024 || why != api.OK {
		t.Error("Ends(0):", first, last, why)
	}
	for _, x := range [][2]int{{3, 2}, {-1, 0}, {-3, -1}} {
		if got := scale.Coarser(x[0]); got != x[1] {
			t.Errorf("Coarser(%d): %d", x[0], got)
		}
	}
}

func TestFloatsRefused(t *testing.T) { // 8.3
	none := []float64{math.NaN(), math.Float64frombits(0x7ff8000000000001), math.Float64frombits(0xfff0000000000001), math.Inf(1), math.Inf(-1)}
	for _, schema := range []int{api.MinSchema - 1, api.MaxSchema + 1, 64, -64, math.MinInt, math.MaxInt} {
		for _, x := range append(none, 0, 1, -1) { // ahead of ErrFloat
			if got, why := scale.Exp(schema, x); got != (api.ExpAt{}) || why != api.ErrRange {
				t.Errorf("Exp(%d, %v): %v, error %d", schema, x, got, why)
			}
		}
		if got, why := scale.Upper(schema, 0); got != 0 || why != api.ErrRange {
			t.Errorf("Upper(%d, 0): %v, error %d", schema, got, why)
		}
		if first, last, why := scale.Ends(schema); first != 0 || last != 0 || why != api.ErrRange {
			t.Errorf("Ends(%d): %d, %d, error %d", schema, first, last, why)
		}
	}
	for schema := api.MinSchema; schema <= api.MaxSchema; schema++ {
		for _, x := range none {
			if got, why := scale.Exp(schema, x); got != (api.ExpAt{}) || why != api.ErrFloat {
				t.Errorf("Exp(%d, %v): %v, error %d", schema, x, got, why)
			}
		}
		at(t, schema, 0, 0, 0)
		at(t, schema, minus, 0, 0)
		first, last, _ := scale.Ends(schema)
		for _, index := range []int{first - 2, last + 1, math.MinInt, math.MaxInt} {
			if got, why := scale.Upper(schema, index); got != 0 || why != api.ErrRange {
				t.Errorf("Upper(%d, %d): %v, error %d", schema, index, got, why)
			}
		}
	}
}

func TestEnds(t *testing.T) { // 8.3
	for schema, want := range map[int][2]int{
		-4: {-67, 64}, -3: {-134, 128}, -2: {-268, 256}, -1: {-537, 512}, 0: {-1074, 1024},
		1: {-2148, 2048}, 2: {-4296, 4096}, 3: {-8592, 8192}, 4: {-17184, 16384}, 8: {-1074 << 8, 1024 << 8},
	} {
		first, last, why := scale.Ends(schema)
		if first != want[0] || last != want[1] || why != api.OK {
			t.Errorf("Ends(%d): %d, %d, error %d, want %v", schema, first, last, why, want)
		}
		at(t, schema, least, 1, want[0])
		at(t, schema, greatest, 1, want[1])
		at(t, schema, -least, -1, want[0])
		upTo(t, schema, want[0]-1, 0)
		upTo(t, schema, want[1], greatest)
	}
	upTo(t, -4, -67, 4*least) // the bucket goes on to 2^-1072
	upTo(t, -4, 63, math.Ldexp(1, 1008))
	upTo(t, 0, 1023, math.Ldexp(1, 1023))
	upTo(t, 8, -1074<<8, least)
}

func TestPowersOfTwo(t *testing.T) { // 8.6
	for schema := range api.MaxSchema + 1 {
		for k := -1074; k <= 1023; k++ {
			x := math.Ldexp(1, k)
			at(t, schema, x, 1, k<<schema)
			upTo(t, schema, k<<schema, x)
			if up := math.Nextafter(x, math.Inf(1)); k > -1022 {
				at(t, schema, up, 1, k<<schema+1)
			}
			if down := math.Nextafter(x, 0); k > -1022 {
				at(t, schema, down, 1, k<<schema)
			}
		}
	}
	for schema := api.MinSchema; schema < 0; schema++ {
		step := 1 << -schema
		for k := -1074; k <= 1023; k++ {
			index := int(math.Ceil(float64(k) / float64(step)))
			at(t, schema, math.Ldexp(1, k), 1, index)
			if k%step == 0 {
				upTo(t, schema, index, math.Ldexp(1, k))
				at(t, schema, math.Nextafter(math.Ldexp(1, k), math.Inf(1)), 1, index+1)
			}
		}
	}
}

// rootOf is the greatest whole number that is at most 2 to the power of j/256, times 2 to the power of places: as the whole part of a root of a whole part is that of the root, eight square roots come to it.
func rootOf(j, places int) *big.Int {
	n := new(big.Int).Lsh(big.NewInt(1), uint(j+places<<api.MaxSchema))
	for range api.MaxSchema {
		n.Sqrt(n)
	}
	return n
}

// Between 1 and 2 a bound of the finest schema stands between two floats. As buckets rise with amounts, who puts these two into their buckets, for each bound, puts all floats there right.
func TestEachRoot(t *testing.T) { // 8.6
	for j := 1; j < 256; j++ {
		below := float64(rootOf(j, 52).Int64()) / (1 << 52)
		above := math.Nextafter(below, 2)
		for _, k := range []int{0, 1, -1, 1023, -1022, 500} {
			at(t, api.MaxSchema, math.Ldexp(below, k), 1, k<<8+j)
			at(t, api.MaxSchema, math.Ldexp(above, k), 1, k<<8+j+1)
			upTo(t, api.MaxSchema, k<<8+j, math.Ldexp(below, k))
		}
		for schema := range api.MaxSchema { // its bounds are bounds of the finest one, too
			if step := 1 << (api.MaxSchema - schema); j%step == 0 {
				at(t, schema, below, 1, j/step)
				at(t, schema, above, 1, j/step+1)
				upTo(t, schema, j/step, below)
			}
		}
	}
	at(t, api.MaxSchema, math.Nextafter(1, 2), 1, 1)
	at(t, api.MaxSchema, math.Nextafter(2, 1), 1, 256)
}

// That roundings tell no float's bucket another one hangs on how near a float is to a root.
func TestNoRootIsNearAFloat(t *testing.T) { // 8.6
	const places = 60
	for j := 1; j < 256; j++ {
		rest := rootOf(j, places).Int64() & (1<<(places-52) - 1) // of what a float's last bit counts, in parts of 2^-60
		if rest == 0 || rest == 1<<(places-52)-1 {
			t.Errorf("the root %d lies within 2^-%d of a float", j, places)
		}
	}
}

// Among the least floats there are fewer bits: the bounds are the same, rounded down to what there is.
func TestLeastFloats(t *testing.T) { // 8.3, 8.6
	for bit := range 52 {
		for j := 1; j < 256; j += 1 + bit%3 {
			below := uint64(rootOf(j, bit).Int64())
			index := (bit-1074)<<8 + j
			upTo(t, api.MaxSchema, index, math.Float64frombits(below))
			if got, _ := scale.Exp(api.MaxSchema, math.Float64frombits(below)); got.Index > index {
				t.Fatalf("the least float times %d: %v, above %d", below, got, index)
			}
			if got, _ := scale.Exp(api.MaxSchema, math.Float64frombits(below+1)); got.Index <= index {
				t.Fatalf("the least float times %d: %v, not above %d", below+1, got, index)
			}
		}
	}
}

func TestUpperBounds(t *testing.T) { // 8.3, 8.6
	for schema := api.MinSchema; schema <= api.MaxSchema; schema++ {
		first, last, _ := scale.Ends(schema)
		below := 0.0
		for index := first; index <= last; index += 1 + (last-first)/4000 {
			if index > first {
				below, _ = scale.Upper(schema, index-1)
			}
			x, why := scale.Upper(schema, index)
			if x < below || math.IsInf(x, 0) || why != api.OK {
				t.Fatalf("Upper(%d, %d): %v, error %d, behind %v", schema, index, x, why, below)
			}
			if x == below { // among the least floats there is none in some buckets
				continue
			}
			at(t, schema, x, 1, index)
			at(t, schema, math.Nextafter(below, math.Inf(1)), 1, index)
			at(t, schema, -x, -1, index)
			if up := math.Nextafter(x, math.Inf(1)); index < last {
				if got, _ := scale.Exp(schema, up); got.Index <= index {
					t.Errorf("Exp(%d, %v): %v, above Upper of %d", schema, up, got, index)
				}
			}
		}
	}
}

// some is any finite float above 0.
func some(r *rand.Rand) float64 {
	if r.Intn(4) == 0 {
		return math.Float64frombits(1 + r.Uint64()>>(12+r.Intn(52))) // one of the least
	}
	return math.Float64frombits(1 + uint64(r.Int63n(0x7fefffffffffffff)))
}

func TestAnyFloat(t *testing.T) { // 8.6 to 8.8
	r := rand.New(rand.NewSource(9))
	for range 3000 {
		x, y := some(r), some(r)
		if x > y {
			x, y = y, x
		}
		if r.Intn(2) == 0 {
			y = math.Nextafter(x, math.Inf(1))
		}
		finer := 0
		for schema := api.MaxSchema; schema >= api.MinSchema; schema-- {
			a, why := scale.Exp(schema, x)
			if a.Sign != 1 || why != api.OK {
				t.Fatalf("Exp(%d, %v): %v, error %d", schema, x, a, why)
			}
			at(t, schema, -x, -1, a.Index)
			if b, _ := scale.Exp(schema, y); !math.IsInf(y, 0) && b.Index < a.Index {
				t.Fatalf("Exp(%d): of %v %v, of %v %v", schema, x, a, y, b)
			}
			if schema < api.MaxSchema && a.Index != scale.Coarser(finer) {
				t.Fatalf("Exp(%d, %v): %v, Coarser(%d) is %d", schema, x, a, finer, scale.Coarser(finer))
			}
			finer = a.Index
			lies(t, schema, x, a.Index)
		}
	}
}

// lies holds a float against the bounds of its bucket.
func lies(t *testing.T, schema int, x float64, index int) {
	t.Helper()
	up, _ := scale.Upper(schema, index)
	down, why := scale.Upper(schema, index-1)
	if down >= x || up < x || why != api.OK {
		t.Fatalf("schema %d: %v is in the bucket %d, above %v and at most %v, error %d", schema, x, index, down, up, why)
	}
}

func TestCoarser(t *testing.T) { // 8.3
	for index := -1000; index <= 1000; index++ {
		if i := scale.Coarser(index); 2*i-1 != index && 2*i != index {
			t.Errorf("Coarser(%d): %d", index, i)
		}
	}
	for _, x := range [][2]int{{math.MaxInt, 1 << 62}, {math.MaxInt - 1, 1<<62 - 1}, {math.MinInt, -1 << 62}, {math.MinInt + 1, 1 - 1<<62}} {
		if got := scale.Coarser(x[0]); got != x[1] {
			t.Errorf("Coarser(%d): %d, want %d", x[0], got, x[1])
		}
	}
}
