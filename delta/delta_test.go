package delta_test

import (
	"maps"
	"math"
	"math/rand"
	"slices"
	"strings"
	"testing"

	"abacus/api"
	"abacus/delta"
)

func TestRight(t *testing.T) { // 24.1
	for _, l := range [][]api.Count{
		nil, {}, counts("a 0"), counts("a 1, b 5"), counts("a 18446744073709551615"), {{Key: long}}, {{Key: "\x00"}}, {{Key: "\xff", N: 1}},
		keyed(0, 1), keyed(0, api.MaxCounts-1), keyed(0, api.MaxCounts),
	} {
		if !delta.Right(l) {
			t.Errorf("Right(%s): false", short(l))
		}
	}
	for name, l := range wrongCounts() {
		if delta.Right(l) {
			t.Error(name)
		}
	}
}

func TestRightChanges(t *testing.T) { // 24.1
	for _, l := range [][]api.Change{
		nil, {}, changes("a 1"), changes("a 18446744073709551615"), changes("a gone"), changes("a 0 reset"), changes("a 5 reset"),
		changes("a 1, b gone, c 0 reset, d 2 reset"), {{Key: long, By: 1}}, {{Key: "\x00", Gone: true}},
		grown(0, api.MaxCounts-1), grown(0, api.MaxCounts), gone(0, api.MaxCounts),
	} {
		if !delta.RightChanges(l) {
			t.Errorf("RightChanges(%s): false", short(l))
		}
	}
	for name, l := range wrongChanges() {
		if delta.RightChanges(l) {
			t.Error(name)
		}
	}
	var keys []api.Change
	var numbers []api.Count
	for _, key := range neighbours {
		keys, numbers = append(keys, api.Change{Key: key, By: 1}), append(numbers, api.Count{Key: key})
	}
	if !delta.RightChanges(keys) || !delta.Right(numbers) {
		t.Error("keys that rise by their bytes are refused")
	}
}

func TestExamples(t *testing.T) { // examples 1 and 2
	diffs(t, counts("a 1, b 5"), counts("a 4, b 2, c 7"), api.OK, changes("a 3, b 2 reset, c 7")...)
	diffs(t, counts("a 1"), nil, api.OK, changes("a gone")...)
	diffs(t, nil, counts("a 0"), api.OK, changes("a 0 reset")...)
	applies(t, counts("a 1"), changes("a gone"), api.OK)
	applies(t, nil, changes("a gone"), api.ErrCounts)
	adds(t, counts("b 5"), changes("b 2 reset"), api.OK, counts("b 7")...)
	joins(t, changes("a 3"), changes("a 4"), api.OK, changes("a 7")...)
	joins(t, changes("a 3"), changes("a 2 reset"), api.OK, changes("a 2 reset")...)
	joins(t, changes("a gone"), changes("a 4"), api.OK, changes("a 4 reset")...)
	joins(t, changes("a 3"), changes("a gone"), api.OK, changes("a gone")...)
}

// What may not be is refused on either side, whatever stands on the other one, ahead of what else is wrong.
func TestWrong(t *testing.T) { // 24.1 to 24.3, P2
	for _, wrong := range wrongCounts() {
		for _, other := range [][]api.Count{nil, counts("a 1"), keyed(0, api.MaxCounts), keyed(90000, api.MaxCounts), wrong} {
			diffs(t, wrong, other, api.ErrCounts)
			diffs(t, other, wrong, api.ErrCounts)
		}
		for _, other := range [][]api.Change{nil, changes("a 1"), grown(0, api.MaxCounts), grown(90000, api.MaxCounts)} {
			applies(t, wrong, other, api.ErrCounts)
			adds(t, wrong, other, api.ErrCounts)
		}
	}
	for _, wrong := range wrongChanges() {
		for _, other := range [][]api.Count{nil, counts("a 1, b 5, z 3"), keyed(0, api.MaxCounts), keyed(90000, api.MaxCounts)} {
			applies(t, other, wrong, api.ErrCounts)
			adds(t, other, wrong, api.ErrCounts)
		}
		for _, other := range [][]api.Change{nil, changes("a 1, b 2, z 3"), grown(0, api.MaxCounts), grown(90000, api.MaxCounts), wrong} {
			joins(t, wrong, other, api.ErrCounts)
			joins(t, other, wrong, api.ErrCounts)
		}
	}
}

func TestDiff(t *testing.T) { // 24.1
	for _, x := range []struct{ old, now, want string }{
		{"", "", ""}, {"a 0", "a 0", ""}, {"a 7", "a 7", ""},
		{"a 7", "a 8", "a 1"}, {"a 0", "a 8", "a 8"}, {"a 0", "a 18446744073709551615", "a 18446744073709551615"},
		{"a 7", "a 6", "a 6 reset"}, {"a 7", "a 0", "a 0 reset"}, {"a 18446744073709551615", "a 18446744073709551614", "a 18446744073709551614 reset"},
		{"", "a 1", "a 1"}, {"", "a 0", "a 0 reset"}, {"", "a 18446744073709551615", "a 18446744073709551615"},
		{"a 0", "", "a gone"}, {"a 7", "", "a gone"},
		{"a 1, b 1, c 1, d 1", "b 1, c 0, d 2, e 0, f 9", "a gone, c 0 reset, d 1, e 0 reset, f 9"},
		{"a 1, c 1", "b 1, d 1", "a gone, b 1, c gone, d 1"},
	} {
		diffs(t, counts(x.old), counts(x.now), api.OK, changes(x.want)...)
	}
}

func TestDiffOfMany(t *testing.T) { // 24.1: MaxCounts, and one past it
	const half = api.MaxCounts / 2
	most := keyed(0, api.MaxCounts)
	diffs(t, nil, most, api.OK, grown(0, api.MaxCounts)...)
	diffs(t, most, nil, api.OK, gone(0, api.MaxCounts)...)
	diffs(t, most, most, api.OK)
	diffs(t, keyed(0, half), keyed(half, half), api.OK, append(gone(0, half), grown(half, half)...)...)
	diffs(t, keyed(half, half), keyed(0, half), api.OK, append(grown(0, half), gone(half, half)...)...)
	diffs(t, keyed(0, half), keyed(half, half+1), api.ErrMany)
	diffs(t, keyed(0, half+1), keyed(half+1, half), api.ErrMany)
	diffs(t, most, keyed(90000, 1), api.ErrMany)
	diffs(t, keyed(90000, 1), most, api.ErrMany)
	diffs(t, most, keyed(90000, api.MaxCounts), api.ErrMany)
	now := append(slices.Clone(most[1:]), api.Count{Key: "z", N: 1}) // what did not change is none
	diffs(t, most, now, api.OK, append(gone(0, 1), api.Change{Key: "z", By: 1})...)
}

func TestApply(t *testing.T) { // 24.2
	for _, x := range []struct{ old, l, want string }{
		{"", "", ""}, {"a 1, b 0", "", "a 1, b 0"}, {"", "a 3", "a 3"}, {"", "a 0 reset", "a 0"}, {"", "a 3 reset", "a 3"},
		{"a 1", "a 3", "a 4"}, {"a 1", "a 3 reset", "a 3"}, {"a 1", "a 0 reset", "a 0"}, {"a 1", "a gone", ""}, {"a 0", "a gone", ""},
		{"a 18446744073709551615", "a 1", "a 0"}, {"a 18446744073709551615", "a 18446744073709551615", "a 18446744073709551614"}, {"a 5", "a 18446744073709551614", "a 3"},
		{"a 1, b 1, c 1, d 1", "b gone, c 5, d 2 reset, e 4", "a 1, c 6, d 2, e 4"},
		{"b 1, d 1", "a 1, c 1, e 1", "a 1, b 1, c 1, d 1, e 1"},
	} {
		applies(t, counts(x.old), changes(x.l), api.OK, counts(x.want)...)
	}
	for _, x := range []struct{ old, l string }{
		{"", "a gone"}, {"b 1", "a gone"}, {"a 1", "b gone"}, {"a 1, c 1", "a 1, b gone"}, {"a 1", "a gone, b gone"}, {"aa 1", "a gone, aa gone"},
	} {
		applies(t, counts(x.old), changes(x.l), api.ErrCounts)
	}
}

func TestAdd(t *testing.T) { // 24.2
	for _, x := range []struct{ total, l, want string }{
		{"", "", ""}, {"a 1, b 0", "", "a 1, b 0"}, {"", "a 3", "a 3"}, {"", "a 0 reset", "a 0"}, {"", "a 3 reset", "a 3"}, {"", "a gone", ""},
		{"a 1", "a 3", "a 4"}, {"a 1", "a 3 reset", "a 4"}, {"a 1", "a 0 reset", "a 1"}, {"a 1", "a gone", "a 1"}, {"a 0", "a gone", "a 0"}, {"b 1", "a gone, c gone", "b 1"},
		{"a 18446744073709551615", "a 1", "a 0"}, {"a 18446744073709551615", "a 2 reset", "a 1"}, {"a 5", "a 18446744073709551614", "a 3"},
		{"a 1, b 1, c 1, d 1", "b gone, c 5, d 2 reset, e 4", "a 1, b 1, c 6, d 3, e 4"},
	} {
		adds(t, counts(x.total), changes(x.l), api.OK, counts(x.want)...)
	}
}

func TestCountsOfMany(t *testing.T) { // 24.2: MaxCounts, and one past it
	most := keyed(0, api.MaxCounts)
	for name, call := range map[string]func(*testing.T, []api.Count, []api.Change, api.Errno, ...api.Count){"Apply": applies, "Add": adds} {
		t.Run(name, func(t *testing.T) {
			call(t, nil, grown(0, api.MaxCounts), api.OK, most...)
			call(t, most, nil, api.OK, most...)
			call(t, most[:api.MaxCounts-1], grown(api.MaxCounts-1, 1), api.OK, most...)
			call(t, most, changes("a 1"), api.ErrMany)
			call(t, most, changes("z 0 reset"), api.ErrMany)
			call(t, counts("a 1"), grown(0, api.MaxCounts), api.ErrMany)
			call(t, most, grown(90000, api.MaxCounts), api.ErrMany)
		})
	}
	applies(t, most, append(gone(0, 1), changes("z 1")...), api.OK, append(slices.Clone(most[1:]), counts("z 1")...)...)
	applies(t, most, append(changes("a 1"), gone(0, 1)...), api.OK, append(counts("a 1"), most[1:]...)...)
	applies(t, most, gone(0, api.MaxCounts), api.OK)
	applies(t, most, changes("a 1, z gone"), api.ErrCounts) // ahead of ErrMany
	applies(t, most, changes("a gone, z 1"), api.ErrCounts)
	adds(t, most, changes("a gone, z gone"), api.OK, most...) // of keys that are not there
	adds(t, most, append(gone(0, 1), changes("z 1")...), api.ErrMany)
}

func TestJoin(t *testing.T) { // 24.3: of all kinds of changes each with each
	for _, x := range []struct{ a, b, want string }{
		{"", "", ""},
		{"a 3", "", "a 3"}, {"a 3 reset", "", "a 3 reset"}, {"a 0 reset", "", "a 0 reset"}, {"a gone", "", "a gone"},
		{"", "a 3", "a 3"}, {"", "a 3 reset", "a 3 reset"}, {"", "a 0 reset", "a 0 reset"}, {"", "a gone", "a gone"},
		{"a 3", "a 4", "a 7"}, {"a 3", "a 2 reset", "a 2 reset"}, {"a 3", "a 0 reset", "a 0 reset"}, {"a 3", "a gone", "a gone"},
		{"a 3 reset", "a 4", "a 7 reset"}, {"a 3 reset", "a 2 reset", "a 2 reset"}, {"a 3 reset", "a 0 reset", "a 0 reset"}, {"a 3 reset", "a gone", "a gone"},
		{"a 0 reset", "a 4", "a 4 reset"}, {"a 0 reset", "a 2 reset", "a 2 reset"}, {"a 0 reset", "a 0 reset", "a 0 reset"}, {"a 0 reset", "a gone", "a gone"},
		{"a gone", "a 4", "a 4 reset"}, {"a gone", "a 2 reset", "a 2 reset"}, {"a gone", "a 0 reset", "a 0 reset"}, {"a gone", "a gone", "a gone"},
		{"a 1", "a 18446744073709551615", ""}, {"a 9223372036854775808", "a 9223372036854775808", ""}, {"a 2", "a 18446744073709551615", "a 1"},
		{"a 1 reset", "a 18446744073709551615", "a 0 reset"}, {"a 18446744073709551615", "a 1 reset", "a 1 reset"},
		{"a 1, b gone, d 4", "a 2, b 1, c 3 reset, e gone", "a 3, b 1 reset, c 3 reset, d 4, e gone"},
		{"a 1, b 1, c 1", "a 18446744073709551615, b 18446744073709551615, c 1", "c 2"},
		{"b 1", "a 1, c 1", "a 1, b 1, c 1"},
	} {
		joins(t, changes(x.a), changes(x.b), api.OK, changes(x.want)...)
	}
}

func TestJoinOfMany(t *testing.T) { // 24.3: MaxCounts, and one past it
	most := grown(0, api.MaxCounts)
	joins(t, most, nil, api.OK, most...)
	joins(t, nil, most, api.OK, most...)
	joins(t, most, gone(0, api.MaxCounts), api.OK, gone(0, api.MaxCounts)...)
	joins(t, most[:1000], most[1000:], api.OK, most...)
	joins(t, most, changes("z 1"), api.ErrMany)
	joins(t, changes("a gone"), most, api.ErrMany)
	joins(t, most, grown(90000, api.MaxCounts), api.ErrMany)
	back := slices.Clone(most[:1])
	back[0].By = -back[0].By
	joins(t, most, append(back, changes("z 1")...), api.OK, append(slices.Clone(most[1:]), changes("z 1")...)...) // what is left out is none
}

// What follows tells the same a second time, by maps.

func mapOf(l []api.Count) map[string]uint64 {
	m := map[string]uint64{}
	for _, c := range l {
		m[c.Key] = c.N
	}
	return m
}

func listOf(m map[string]uint64) []api.Count {
	var l []api.Count
	for key, n := range m {
		l = append(l, api.Count{Key: key, N: n})
	}
	slices.SortFunc(l, func(a, b api.Count) int { return strings.Compare(a.Key, b.Key) })
	return l
}

// came is what came of counts, by the document's words.
func came(old, now []api.Count) []api.Change {
	was, is := mapOf(old), mapOf(now)
	both := maps.Clone(was)
	maps.Copy(both, is)
	var l []api.Change
	for _, c := range listOf(both) {
		before, wasThere := was[c.Key]
		after, isThere := is[c.Key]
		switch {
		case !isThere:
			l = append(l, api.Change{Key: c.Key, Gone: true})
		case wasThere && after < before:
			l = append(l, api.Change{Key: c.Key, By: after, Reset: true})
		case wasThere && after > before:
			l = append(l, api.Change{Key: c.Key, By: after - before})
		case !wasThere:
			l = append(l, api.Change{Key: c.Key, By: after, Reset: after == 0})
		}
	}
	return l
}

func applied(old []api.Count, l []api.Change) ([]api.Count, api.Errno) {
	m := mapOf(old)
	for _, c := range l {
		_, is := m[c.Key]
		switch {
		case c.Gone && !is:
			return nil, api.ErrCounts
		case c.Gone:
			delete(m, c.Key)
		case c.Reset:
			m[c.Key] = c.By
		default:
			m[c.Key] += c.By
		}
	}
	return listOf(m), api.OK
}

func added(total []api.Count, l []api.Change) []api.Count {
	m := mapOf(total)
	for _, c := range l {
		if !c.Gone {
			m[c.Key] += c.By
		}
	}
	return listOf(m)
}

func TestAnyCounts(t *testing.T) { // 24.1, 24.2, 24.7
	r := rand.New(rand.NewSource(24))
	refused := 0
	for range 20000 {
		old, now, l := someCounts(r, all), someCounts(r, all), someChanges(r, all)
		d := came(old, now)
		diffs(t, old, now, api.OK, d...)
		applies(t, old, d, api.OK, now...) // 24.7
		diffs(t, old, slices.Clone(old), api.OK)
		want, why := applied(old, l)
		applies(t, old, l, why, want...)
		adds(t, old, l, api.OK, added(old, l)...)
		if why != api.OK {
			refused++
		}
		if !delta.RightChanges(d) || t.Failed() {
			t.Fatal(d)
		}
	}
	if refused < 1000 || refused > 19000 {
		t.Error("refused so often:", refused)
	}
}

func TestJoined(t *testing.T) { // 24.8
	r := rand.New(rand.NewSource(8))
	some := 0
	for range 20000 {
		old, a, b, c := someCounts(r, few), someChanges(r, few), someChanges(r, few), someChanges(r, few)
		ab := joined(t, a, b)
		abc := joined(t, ab, c)
		joins(t, a, joined(t, b, c), api.OK, abc...)
		if !delta.RightChanges(ab) {
			t.Fatal("no changes:", ab)
		}
		first, why1 := delta.Apply(old, a)
		second, why2 := delta.Apply(first, b)
		at, why := delta.Apply(old, ab)
		if why1 == api.OK && why2 == api.OK && why == api.OK {
			some++
			if !slices.Equal(at, second) {
				t.Fatalf("%v by %v, %v: %v, by both joined %v", old, a, b, second, at)
			}
		}
		if !areMixed(a, b) {
			once, _ := delta.Add(old, a)
			twice, _ := delta.Add(once, b)
			adds(t, old, ab, api.OK, twice...)
		}
		if t.Failed() {
			return
		}
	}
	if some < 1000 {
		t.Error("so often both do:", some)
	}
}

func joined(t *testing.T, a, b []api.Change) []api.Change {
	t.Helper()
	l, why := delta.Join(a, b)
	if why != api.OK {
		t.Fatalf("Join(%v, %v): error %d", a, b, why)
	}
	return l
}

// areMixed tells whether a key of both is Gone in one of them, or Reset in the second one.
func areMixed(a, b []api.Change) bool {
	for _, x := range a {
		for _, y := range b {
			if x.Key == y.Key && (x.Gone || y.Gone || y.Reset) {
				return true
			}
		}
	}
	return false
}

// Looks one behind another, whose changes are joined: as if nobody had looked between.
func TestJoinOfLooks(t *testing.T) { // 24.7, 24.8
	r := rand.New(rand.NewSource(77))
	for range 2000 {
		looks := [][]api.Count{someCounts(r, few)}
		var all []api.Change
		for range r.Intn(8) {
			next := someCounts(r, few)
			d, _ := delta.Diff(looks[len(looks)-1], next)
			all = joined(t, all, d)
			looks = append(looks, next)
		}
		first, last := looks[0], looks[len(looks)-1]
		all = slices.DeleteFunc(all, func(c api.Change) bool { // what came and went between is told as gone, which it cannot be for who never had it
			return c.Gone && !slices.ContainsFunc(first, func(x api.Count) bool { return x.Key == c.Key })
		})
		applies(t, first, all, api.OK, last...)
		if t.Failed() {
			return
		}
	}
}

func TestTotalsOfLooks(t *testing.T) { // 24.9
	r := rand.New(rand.NewSource(9))
	for range 500 {
		steady := map[string]uint64{} // keys that never fall and never go
		other := map[string]uint64{}  // keys that do
		var last, total []api.Count
		for range 1 + r.Intn(20) {
			for i, key := range neighbours {
				switch {
				case r.Intn(3) == 0:
				case i%2 == 0:
					steady[key] += few[r.Intn(len(few))]
				case r.Intn(4) == 0:
					delete(other, key)
				default:
					other[key] = few[r.Intn(len(few))]
				}
			}
			now := maps.Clone(steady)
			maps.Copy(now, other)
			d, why := delta.Diff(last, listOf(now))
			if why != api.OK {
				t.Fatal("Diff: error", why)
			}
			last = listOf(now)
			if total, why = delta.Add(total, d); why != api.OK {
				t.Fatal("Add: error", why)
			}
		}
		got := mapOf(total)
		for key, n := range steady {
			if sum, is := got[key]; !is || sum != n {
				t.Fatalf("%q is %d, its total %d, %v", key, n, sum, is)
			}
		}
	}
}

func TestMemory(t *testing.T) { // 24.6
	old, now := freshCounts(counts("a 1, b 5, c 2")), freshCounts(counts("a 4, b 2, d 7"))
	one, two := freshChanges(changes("a 3, b gone, e 1")), freshChanges(changes("a 1, c gone, f 0 reset"))
	keptOld, keptNow, keptOne, keptTwo := freshCounts(old), freshCounts(now), freshChanges(one), freshChanges(two)
	d, _ := delta.Diff(old, now)
	news, _ := delta.Diff(nil, now)
	applied, _ := delta.Apply(old, one)
	kept, _ := delta.Apply(old, nil)
	made, _ := delta.Apply(nil, changes("a 1"))
	total, _ := delta.Add(now, two)
	same, _ := delta.Add(old, nil)
	both, _ := delta.Join(one, two)
	first, _ := delta.Join(one, nil)
	second, _ := delta.Join(nil, two)
	x := texts{}
	for _, l := range [][]api.Count{old, now, applied, kept, made, total, same} {
		if !x.areApart(keysOf(l)...) {
			t.Error("keys share memory:", l)
		}
	}
	for _, l := range [][]api.Change{one, two, d, news, both, first, second} {
		if !x.areApart(keysOfChanges(l)...) {
			t.Error("keys share memory:", l)
		}
	}
	for _, l := range [][]api.Count{applied, kept, made, total, same} {
		spoilCounts(l)
	}
	for _, l := range [][]api.Change{d, news, both, first, second} {
		spoilChanges(l)
	}
	for n := range 3 { // with spare room behind them
		delta.Apply(old[:n], two[2:])
		delta.Add(now[:n], two)
		delta.Join(one[:n], two)
		delta.Join(two[:n], one)
		delta.Diff(old[:n], now)
	}
	if !slices.Equal(old, keptOld) || !slices.Equal(now, keptNow) || !slices.Equal(one, keptOne) || !slices.Equal(two, keptTwo) {
		t.Error("what was handed in is changed, or an answer is a piece of it:", old, now, one, two)
	}
	again, _ := delta.Diff(old, now)
	if !slices.Equal(again, changes("a 3, b 2 reset, c gone, d 7")) {
		t.Error("Diff, again:", again)
	}
}

func TestHugeNumbers(t *testing.T) { // sums are modulo 2^64
	const most = math.MaxUint64
	l := []api.Count{{Key: "a", N: most}}
	diffs(t, counts("a 1"), l, api.OK, api.Change{Key: "a", By: most - 1})
	diffs(t, l, counts("a 1"), api.OK, changes("a 1 reset")...)
	adds(t, l, []api.Change{{Key: "a", By: most}}, api.OK, api.Count{Key: "a", N: most - 1})
	joins(t, []api.Change{{Key: "a", By: most}}, []api.Change{{Key: "a", By: most}}, api.OK, api.Change{Key: "a", By: most - 1})
}
