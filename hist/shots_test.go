package hist_test

import (
	"math"
	"math/rand"
	"slices"
	"testing"

	"abacus/api"
	"abacus/hist"
)

// but is a snapshot of which something is changed.
func but(x api.Shot, change func(x *api.Shot)) api.Shot {
	x.Buckets = slices.Clone(x.Buckets)
	change(&x)
	return x
}

func TestCheck(t *testing.T) { // 10.4
	none := shot(example)
	one := shot(example, record{63, 1})
	two := shot(example, record{63, 2}, record{5, 1})
	far := shot(example, record{1000, 1}, record{0, 1})
	wide := shot(example, record{64, 1}, record{67, 1}) // of the bucket from 64 to 67
	for _, x := range []struct {
		name string
		shot api.Shot
		why  api.Errno
	}{
		{"none", none, api.OK},
		{"one", one, api.OK},
		{"two", two, api.OK},
		{"both ends", far, api.OK},
		{"two of one bucket", wide, api.OK},
		{"many", shot(example, record{500, 1 << 63}, record{0, 1<<63 - 1}), api.OK},
		{"a count that went round", shot(example, record{500, 1 << 63}, record{3, 1 << 63}), api.OK},
		{"a count that went round by more", shot(example, record{500, 1 << 63}, record{3, 1<<63 + 5}), api.OK},

		{"zero", api.Shot{}, api.ErrShot},
		{"no buckets", api.Shot{Least: -1, Greatest: -1}, api.ErrShot},
		{"a bucket too few", but(two, func(x *api.Shot) { x.Buckets = x.Buckets[:111] }), api.ErrShot},
		{"a bucket too many", but(two, func(x *api.Shot) { x.Buckets = append(x.Buckets, 0) }), api.ErrShot},
		{"one more bucket with a count", but(two, func(x *api.Shot) { x.Buckets = append(x.Buckets, 1); x.Count++ }), api.ErrShot},
		{"a count above", but(two, func(x *api.Shot) { x.Count++ }), api.ErrShot},
		{"a count below", but(two, func(x *api.Shot) { x.Count-- }), api.ErrShot},
		{"a bucket below", but(two, func(x *api.Shot) { x.Buckets[47]-- }), api.ErrShot},

		{"none, with a count", but(none, func(x *api.Shot) { x.Count = 1 }), api.ErrShot},
		{"none, with a sum", but(none, func(x *api.Shot) { x.Sum = 1 }), api.ErrShot},
		{"none, with a least one", but(none, func(x *api.Shot) { x.Least = 0 }), api.ErrShot},
		{"none, with a greatest one", but(none, func(x *api.Shot) { x.Greatest = 0 }), api.ErrShot},
		{"none, with both", but(none, func(x *api.Shot) { x.Least, x.Greatest = 0, 0 }), api.ErrShot},
		{"none, and less than that", but(none, func(x *api.Shot) { x.Least, x.Greatest = -2, -2 }), api.ErrShot},

		{"a least one that is none", but(two, func(x *api.Shot) { x.Least = -1 }), api.ErrShot},
		{"a greatest one that is none", but(two, func(x *api.Shot) { x.Greatest = -1 }), api.ErrShot},
		{"a least one of the bucket below", but(two, func(x *api.Shot) { x.Least = 4 }), api.ErrShot},
		{"a least one of the bucket above", but(two, func(x *api.Shot) { x.Least = 6 }), api.ErrShot},
		{"a least one of the last bucket", but(two, func(x *api.Shot) { x.Least = 63 }), api.ErrShot},
		{"a greatest one of the same bucket", but(two, func(x *api.Shot) { x.Greatest = 62 }), api.OK},
		{"a greatest one of the bucket below", but(two, func(x *api.Shot) { x.Greatest = 61 }), api.ErrShot},
		{"a greatest one of the bucket above", but(two, func(x *api.Shot) { x.Greatest = 64 }), api.ErrShot},
		{"a greatest one of the first bucket", but(two, func(x *api.Shot) { x.Greatest = 5 }), api.ErrShot},
		{"another sum", but(two, func(x *api.Shot) { x.Sum = 12345 }), api.OK},

		{"the first bucket", shot(example, record{0, 5}), api.OK},
		{"the last bucket", shot(example, record{992, 5}), api.OK},
		{"a greatest one above Highest", but(far, func(x *api.Shot) { x.Greatest = 1001 }), api.ErrShot},
		{"a least one above Highest", but(shot(example, record{1000, 2}), func(x *api.Shot) { x.Least, x.Greatest = 1001, 1001 }), api.ErrShot},

		{"ends of one bucket", but(wide, func(x *api.Shot) { x.Least, x.Greatest = 65, 66 }), api.OK},
		{"one end of one bucket", but(wide, func(x *api.Shot) { x.Least, x.Greatest = 66, 66 }), api.OK},
		{"ends the other way about", but(wide, func(x *api.Shot) { x.Least, x.Greatest = 66, 65 }), api.ErrShot},

		{"one, that is two", but(shot(example, record{64, 1}), func(x *api.Shot) { x.Greatest = 65 }), api.ErrShot},
		{"one, with another sum", but(one, func(x *api.Shot) { x.Sum = 62 }), api.ErrShot},
		{"one, of the same bucket as another sum", but(one, func(x *api.Shot) { x.Least, x.Greatest = 62, 62 }), api.ErrShot},
		{"one, that is another one", but(one, func(x *api.Shot) { x.Least, x.Greatest, x.Sum = 62, 62, 62 }), api.OK},
		{"nought", shot(example, record{0, 1}), api.OK},
		{"nought, with a sum", but(shot(example, record{0, 1}), func(x *api.Shot) { x.Sum = 1 }), api.ErrShot},
		{"one of each of two buckets", shot(example, record{5, 1}, record{6, 1}), api.OK},
	} {
		if why := hist.Check(example, x.shot); why != x.why {
			t.Errorf("%s: error %d, want %d", x.name, why, x.why)
		}
		for _, s := range wrong { // ahead of ErrShot
			if why := hist.Check(s, x.shot); why != api.ErrScale {
				t.Errorf("%s by %v: error %d", x.name, s, why)
			}
		}
		if x.why == api.OK {
			continue
		}
		for _, l := range [][2]api.Shot{{x.shot, two}, {two, x.shot}, {x.shot, x.shot}} {
			if both, why := hist.Merge(example, l[0], l[1]); !isZero(both) || why != api.ErrShot {
				t.Errorf("Merge with %s: %v, error %d", x.name, both, why)
			}
		}
	}
}

func TestExampleOfMerge(t *testing.T) { // example 3
	h := made(t, example)
	records(t, h, 5, 1)
	records(t, h, 7, 1)
	x := h.Show()
	if both, why := hist.Merge(example, x, made(t, example).Show()); !alike(both, x) || why != api.OK {
		t.Error("Merge with an empty one:", both, why)
	}
	records(t, h, 63, 1)
	x = h.Show()
	x.Count = 4
	if why := hist.Check(example, x); why != api.ErrShot {
		t.Error("Check of a Count of 4: error", why)
	}
}

func some(r *rand.Rand, s api.Scale) []record {
	var l []record
	for range r.Intn(8) {
		l = append(l, record{r.Int63n(s.Highest+1) >> r.Intn(10), 1 + r.Uint64()>>r.Intn(64)})
	}
	return l
}

func TestMerge(t *testing.T) { // 10.4, 10.10
	r := rand.New(rand.NewSource(10))
	for range 3000 {
		s := []api.Scale{example, {Lowest: 1, Highest: 2, Digits: 1}, {Lowest: 5, Highest: 100000, Digits: 2}}[r.Intn(3)]
		a, b := some(r, s), some(r, s)
		if r.Intn(3) > 0 { // few enough that nothing goes round
			for _, l := range [][]record{a, b} {
				for i := range l {
					l[i].n = 1 + l[i].n%3
				}
			}
		}
		x, y := shot(s, a...), shot(s, b...)
		if hist.Check(s, x) != api.OK || hist.Check(s, y) != api.OK {
			continue // a bucket went round to 0
		}
		want := shot(s, append(slices.Clip(a), b...)...)
		for _, l := range [][2]api.Shot{{x, y}, {y, x}} {
			if both, why := hist.Merge(s, l[0], l[1]); !alike(both, want) || why != api.OK {
				t.Fatalf("Merge of %v and %v: %v, error %d, want %v", a, b, both, why, want)
			}
		}
		for _, l := range [][2]api.Shot{{x, shot(s)}, {shot(s), x}} {
			if both, why := hist.Merge(s, l[0], l[1]); !alike(both, x) || why != api.OK {
				t.Fatalf("Merge of %v and of none: %v, error %d", a, both, why)
			}
		}
	}
}

// Where counts go round, what is merged may not be right any more.
func TestMergeGoesRound(t *testing.T) { // 10.4
	x := shot(example, record{5, 1 << 63})
	both, why := hist.Merge(example, x, x)
	if why != api.OK || both.Count != 0 || both.Sum != 0 || both.Least != 5 || both.Greatest != 5 || both.Buckets[5] != 0 {
		t.Error(both, why)
	}
	if why := hist.Check(example, both); why != api.ErrShot {
		t.Error("Check: error", why)
	}
}

func TestMergeRefuses(t *testing.T) { // 10.4
	for _, s := range wrong {
		for _, x := range []api.Shot{{}, shot(example)} {
			if both, why := hist.Merge(s, x, x); !isZero(both) || why != api.ErrScale {
				t.Errorf("Merge by %v: %v, error %d", s, both, why)
			}
		}
	}
	if both, why := hist.Merge(most, shot(example), shot(most)); !isZero(both) || why != api.ErrShot {
		t.Error("Merge of two scales:", both.Count, why)
	}
	if why := hist.Check(most, shot(most, record{api.MaxAt, 3}, record{0, math.MaxUint32})); why != api.OK {
		t.Error("Check of the greatest scale: error", why)
	}
}
