package scale_test

import (
	"math"
	"math/rand"
	"testing"

	"abacus/api"
	"abacus/scale"
)

func is(lowest, highest int64, digits int) api.Scale {
	return api.Scale{Lowest: lowest, Highest: highest, Digits: digits}
}

func counts(t *testing.T, s api.Scale, want int) {
	t.Helper()
	if n, why := scale.Count(s); n != want || why != api.OK {
		t.Errorf("Count of %v: %d, error %d, want %d", s, n, why, want)
	}
}

func indexed(t *testing.T, s api.Scale, v int64, want int) {
	t.Helper()
	if i, why := scale.Index(s, v); i != want || why != api.OK {
		t.Errorf("Index of %d by %v: %d, error %d, want %d", v, s, i, why, want)
	}
}

func bound(t *testing.T, s api.Scale, i int, least, greatest int64) {
	t.Helper()
	if a, b, why := scale.Bounds(s, i); a != least || b != greatest || why != api.OK {
		t.Errorf("Bounds of %d by %v: %d, %d, error %d, want %d, %d", i, s, a, b, why, least, greatest)
	}
}

// wrong are scales that are not right.
func wrong() []api.Scale {
	return []api.Scale{
		{}, is(1, 1, 1), is(0, 1000, 1), is(-1, 1000, 1), is(math.MinInt64, 1000, 1), is(math.MinInt64, math.MinInt64, 1),
		is(api.MaxLowest+1, api.MaxAt, 1), is(math.MaxInt64, api.MaxAt, 1), is(1<<62, api.MaxAt, 1), is(1<<63-2, -4, 1),
		is(1, 0, 1), is(1, -1, 1), is(5, 9, 1), is(1, math.MinInt64, 1), is(api.MaxLowest, 2*api.MaxLowest-1, 1),
		is(1, api.MaxAt+1, 1), is(1, math.MaxInt64, 1),
		is(1, 1000, 0), is(1, 1000, -1), is(1, 1000, math.MinInt), is(1, 1000, api.MaxDigits+1), is(1, 1000, math.MaxInt),
	}
}

func TestCheck(t *testing.T) { // 8.1
	for _, s := range wrong() {
		if why := scale.Check(s); why != api.ErrScale {
			t.Errorf("Check of %v: error %d", s, why)
		}
		if n, why := scale.Count(s); n != 0 || why != api.ErrScale {
			t.Errorf("Count of %v: %d, error %d", s, n, why)
		}
		for _, v := range []int64{0, 1, -1, math.MaxInt64} { // ahead of ErrRange
			if i, why := scale.Index(s, v); i != 0 || why != api.ErrScale {
				t.Errorf("Index of %d by %v: %d, error %d", v, s, i, why)
			}
			if a, b, why := scale.Bounds(s, int(v)); a != 0 || b != 0 || why != api.ErrScale {
				t.Errorf("Bounds of %d by %v: %d, %d, error %d", v, s, a, b, why)
			}
		}
	}
	for _, s := range []api.Scale{
		is(1, 2, 1), is(1, 1000, 1), is(5, 10, 2), is(1, api.MaxAt, 3), is(api.MaxLowest, 2*api.MaxLowest, 1), is(api.MaxLowest, api.MaxAt, 3),
	} {
		if why := scale.Check(s); why != api.OK {
			t.Errorf("Check of %v: error %d", s, why)
		}
	}
}

func TestExamples(t *testing.T) { // examples 1 and 2
	s := is(1, 1000, 1)
	counts(t, s, 112)
	indexed(t, s, 31, 31)
	indexed(t, s, 32, 32)
	bound(t, s, 32, 32, 33)
	indexed(t, s, 63, 47)
	indexed(t, s, 64, 48)
	bound(t, s, 48, 64, 67)
	indexed(t, s, 1000, 111)
	for _, v := range []int64{-1, 1001} {
		if i, why := scale.Index(s, v); i != 0 || why != api.ErrRange {
			t.Errorf("Index of %d: %d, error %d", v, i, why)
		}
	}
	if a, b, why := scale.Bounds(s, 112); a != 0 || b != 0 || why != api.ErrRange {
		t.Error("Bounds of 112:", a, b, why)
	}
	s.Lowest = 5
	indexed(t, s, 3, 0)
	bound(t, s, 0, 0, 3)
}

func TestCount(t *testing.T) { // 8.1
	counts(t, is(1, 2, 1), 3)
	counts(t, is(1, 31, 1), 32)
	counts(t, is(1, 32, 1), 33)
	counts(t, is(1, 33, 1), 33)
	counts(t, is(1, 34, 1), 34)
	counts(t, is(3, 6, 3), 4)
	counts(t, is(1, 255, 2), 256)
	counts(t, is(1, 511, 2), 384)
	counts(t, is(1, 512, 2), 385)
	counts(t, is(1, 2047, 3), 2048)
	counts(t, is(1, 4096, 3), 3073)
	counts(t, is(api.MaxLowest, 2*api.MaxLowest, 1), 3)
	counts(t, is(1, api.MaxAt, 1), 32+56*16+1)
	counts(t, is(1, api.MaxAt, 3), 2048+50*1024+1)
	counts(t, is(1, api.MaxAt-1, 3), 2048+50*1024)
	counts(t, is(api.MaxLowest, api.MaxAt, 3), 2048+10*1024+1)
}

func TestOutOfRange(t *testing.T) { // 8.2
	for _, s := range []api.Scale{is(1, 2, 1), is(1, 1000, 1), is(100, 12345, 2), is(1, api.MaxAt, 3), is(api.MaxLowest, api.MaxAt, 1)} {
		for _, v := range []int64{-1, math.MinInt64, s.Highest + 1, math.MaxInt64} {
			if i, why := scale.Index(s, v); i != 0 || why != api.ErrRange {
				t.Errorf("Index of %d by %v: %d, error %d", v, s, i, why)
			}
		}
		n, _ := scale.Count(s)
		for _, i := range []int{-1, math.MinInt, n, n + 1, math.MaxInt} {
			if a, b, why := scale.Bounds(s, i); a != 0 || b != 0 || why != api.ErrRange {
				t.Errorf("Bounds of %d by %v: %d, %d, error %d", i, s, a, b, why)
			}
		}
	}
}

// told is a number's bucket as the document tells it.
func told(s api.Scale, v int64) int {
	unit := int64(1)
	for unit*2 <= s.Lowest {
		unit *= 2
	}
	size := []int64{0, 32, 256, 2048}[s.Digits]
	u := v / unit
	if u < size {
		return int(u)
	}
	k := int64(0)
	for u/(1<<k) >= size {
		k++
	}
	return int(size + (k-1)*size/2 + u/(1<<k) - size/2)
}

func TestBucketsPartTheNumbers(t *testing.T) { // 8.2, 8.4
	for _, s := range []api.Scale{
		is(1, 2, 1), is(1, 3000, 1), is(2, 3000, 1), is(3, 3001, 1), is(4, 2999, 1), is(5, 10, 1), is(7, 5000, 1), is(100, 20000, 1), is(1000, 2000, 1),
		is(1, 5000, 2), is(6, 30000, 2), is(1, 20000, 3), is(9, 100000, 3),
	} {
		n, _ := scale.Count(s)
		i, next := -1, int64(0)
		var greatest int64
		for v := range s.Highest + 1 {
			if v == next { // a bucket begins
				i++
				least, top, why := scale.Bounds(s, i)
				if least != v || top < least || why != api.OK {
					t.Fatalf("%v: the bucket %d from %d on: %d, %d, error %d", s, i, v, least, top, why)
				}
				greatest, next = top, top+1
			}
			if got, why := scale.Index(s, v); got != i || got != told(s, v) || why != api.OK {
				t.Fatalf("%v: Index of %d: %d, error %d, want %d", s, v, got, why, told(s, v))
			}
		}
		if i != n-1 || greatest < s.Highest {
			t.Errorf("%v: the last bucket is %d, to %d; there are %d", s, i, greatest, n)
		}
	}
}

// greats are scales of great numbers.
func greats() []api.Scale {
	var l []api.Scale
	for digits := 1; digits <= api.MaxDigits; digits++ {
		for _, lowest := range []int64{1, 2, 3, 1000, 1<<20 - 1, 1 << 20, api.MaxLowest - 1, api.MaxLowest} {
			for _, highest := range []int64{2 * lowest, 1<<50 + 12345, api.MaxAt - 1, api.MaxAt} {
				l = append(l, is(lowest, highest, digits))
			}
		}
	}
	return l
}

func TestNeighboursFollow(t *testing.T) { // 8.4, 8.5
	for _, s := range greats() {
		n, _ := scale.Count(s)
		next := int64(0)
		for i := range n {
			least, greatest, why := scale.Bounds(s, i)
			if least != next || greatest < least || why != api.OK {
				t.Fatalf("%v: Bounds of %d: %d, %d, error %d; it begins with %d", s, i, least, greatest, why, next)
			}
			next = greatest + 1
			indexed(t, s, least, i)
			indexed(t, s, min(greatest, s.Highest), i)
			apart(t, s, i, least, greatest)
		}
		if next <= s.Highest {
			t.Fatalf("%v: the last bucket ends with %d", s, next-1)
		}
		if t.Failed() {
			t.FailNow()
		}
	}
}

// apart holds a bucket's bounds against the digits to which numbers are told apart.
func apart(t *testing.T, s api.Scale, i int, least, greatest int64) {
	t.Helper()
	size := []int64{0, 32, 256, 2048}[s.Digits]
	part := []int64{0, 10, 100, 1000}[s.Digits]
	unit := int64(1)
	for unit*2 <= s.Lowest {
		unit *= 2
	}
	if least >= size/2*unit && greatest-least > (least-1)/part { // (least-1)/part is the greatest number below least/part
		t.Errorf("%v: the bucket %d from %d to %d is too wide", s, i, least, greatest)
	}
	if least < size/2*unit && greatest-least != unit-1 {
		t.Errorf("%v: the bucket %d from %d to %d is not a unit wide", s, i, least, greatest)
	}
}

func TestIndexOfAny(t *testing.T) { // 8.2, 8.4
	r := rand.New(rand.NewSource(8))
	for _, s := range greats() {
		for range 300 {
			v := r.Int63n(s.Highest + 1)
			v >>= r.Intn(62)
			w := v + r.Int63n(s.Highest-v+1)>>r.Intn(62)
			i, why := scale.Index(s, v)
			if i != told(s, v) || why != api.OK {
				t.Fatalf("%v: Index of %d: %d, error %d, want %d", s, v, i, why, told(s, v))
			}
			if j, why := scale.Index(s, w); j < i || why != api.OK {
				t.Fatalf("%v: Index of %d: %d, of %d: %d", s, v, i, w, j)
			}
			if least, greatest, why := scale.Bounds(s, i); v < least || v > greatest || why != api.OK {
				t.Fatalf("%v: %d lies not from %d to %d", s, v, least, greatest)
			}
		}
	}
}
