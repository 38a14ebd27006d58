package crdt_test

import (
	"math"
	"math/rand"
	"slices"
	"strings"
	"testing"

	"abacus/api"
	"abacus/crdt"
)

func TestCheck(t *testing.T) { // 23.1
	for _, l := range [][]api.Node{
		nil, {}, state("a 1 0"), state("a 0 1"), state("a 1 1"), state("_ 1 0"), state("A9_z 1 0"), named(long),
		{{Name: "a", Up: api.MaxUp}}, {{Name: "a", Down: api.MaxUp}}, {{Name: "a", Up: api.MaxUp, Down: api.MaxUp}},
		named("a", long, long[1:]+"y"), named(neighbours...), nodes(1), nodes(api.MaxNodes - 1), nodes(api.MaxNodes),
	} {
		if why := crdt.Check(l); why != api.OK || !isState(l) {
			t.Errorf("Check(%v): error %d", l, why)
		}
	}
	for _, x := range wrongStates() {
		if why := crdt.Check(x.l); why != api.ErrState || isState(x.l) {
			t.Errorf("%s: error %d", x.name, why)
		}
	}
}

// Every list that is no state is refused by all, on either side, whatever else is asked; and nothing is told beside the error.
func TestWrongStates(t *testing.T) { // 23.1, 23.2, P2
	for _, x := range wrongStates() {
		for _, other := range [][]api.Node{nil, state("a 1 0, b 1 1"), nodes(api.MaxNodes), x.l, state("b 1 0, a 1 0")} {
			merges(t, x.l, other, api.ErrState)
			merges(t, other, x.l, api.ErrState)
			for _, pair := range [][2][]api.Node{{x.l, other}, {other, x.l}} {
				if is, why := crdt.Below(pair[0], pair[1]); is || why != api.ErrState {
					t.Errorf("%s: Below: %v, error %d", x.name, is, why)
				}
				if l, why := crdt.Delta(pair[0], pair[1]); len(l) > 0 || why != api.ErrState {
					t.Errorf("%s: Delta: %v, error %d", x.name, l, why)
				}
			}
		}
		if n, why := crdt.Value(x.l); n != 0 || why != api.ErrState {
			t.Errorf("%s: Value: %d, error %d", x.name, n, why)
		}
		if s, why := crdt.Print(x.l); s != "" || why != api.ErrState {
			t.Errorf("%s: Print: %q, error %d", x.name, s, why)
		}
	}
}

func TestExamples(t *testing.T) { // examples 1 to 3
	a, b := state("a 3 0, b 1 1"), state("a 2 5, c 1 0")
	merges(t, a, b, api.OK, state("a 3 5, b 1 1, c 1 0")...)
	values(t, state("a 3 5, b 1 1, c 1 0"), -1)
	below(t, state("a 1 0"), state("a 2 0"), true)
	below(t, state("a 1 0"), state("b 1 0"), false)
	deltas(t, a, state("a 3 0"), state("b 1 1")...)
	prints(t, state("a 3 0"), "a 3 0\n")
	for _, s := range []string{"a 3 0", "a 0 0\n", "b 1 0\na 1 0\n"} {
		parses(t, s, api.ErrState)
	}
	isLater(t, api.Stamp{At: 5, Name: "a", Value: 1}, api.Stamp{At: 5, Name: "b", Value: 0}, api.Stamp{At: 5, Name: "b", Value: 0})
	frees(t, [][]int64{{1, -2}, {5}}, state("n0 1 2, n1 5 0")...)
	if c, why := crdt.New("9"); c != nil || why != api.ErrName {
		t.Errorf("New(9): error %d", why)
	}
}

func values(t *testing.T, l []api.Node, want int64) {
	t.Helper()
	if got, why := crdt.Value(l); got != want || why != api.OK {
		t.Errorf("Value(%v): %d, error %d, want %d", l, got, why, want)
	}
}

func TestMerge(t *testing.T) { // 23.1
	merges(t, nil, nil, api.OK)
	merges(t, nil, []api.Node{}, api.OK)
	merges(t, state("a 1 2"), nil, api.OK, state("a 1 2")...)
	merges(t, nil, state("a 1 2"), api.OK, state("a 1 2")...)
	merges(t, state("a 1 2"), state("a 2 1"), api.OK, state("a 2 2")...)
	merges(t, state("a 1 0"), state("a 0 1"), api.OK, state("a 1 1")...)
	merges(t, state("a 3 3"), state("a 1 1"), api.OK, state("a 3 3")...)
	merges(t, state("a 1 1"), state("a 3 3"), api.OK, state("a 3 3")...)
	merges(t, state("a 72057594037927936 0"), state("a 0 72057594037927936"), api.OK, state("a 72057594037927936 72057594037927936")...)
	merges(t, state("a10 1 0, a2 1 0"), state("a 1 0, a1 1 0, aA 1 0"), api.OK, state("a 1 0, a1 1 0, a10 1 0, a2 1 0, aA 1 0")...)
}

func TestMergeOfMany(t *testing.T) { // 23.1: MaxNodes, and one past it
	all := nodes(api.MaxNodes + 1)
	most := nodes(api.MaxNodes)
	merges(t, most, most, api.OK, most...)
	merges(t, most, nil, api.OK, most...)
	merges(t, nil, most, api.OK, most...)
	merges(t, most[:32], most[32:], api.OK, most...)
	merges(t, most[20:], most[:40], api.OK, most...)
	for cut := 1; cut <= api.MaxNodes; cut++ {
		merges(t, all[:cut], all[cut:], api.ErrMany)
		merges(t, all[cut:], all[:cut], api.ErrMany)
	}
	merges(t, all[1:], all[:api.MaxNodes], api.ErrMany)
	merges(t, most, state("a 1 0"), api.ErrMany)
	merges(t, state("z 1 0"), most, api.ErrMany)
	merges(t, most, state("z 1 0, y 1 0"), api.ErrState) // ahead of ErrMany
	merges(t, state("z 0 0"), most, api.ErrState)
	below(t, all[1:], all[:api.MaxNodes], false) // by which no such state is made
	deltas(t, all[1:], all[:api.MaxNodes], all[api.MaxNodes])
}

func TestBelow(t *testing.T) { // 23.1
	for _, x := range []struct {
		a, b string
		want bool
	}{
		{"", "", true}, {"", "a 1 0", true}, {"a 1 0", "", false}, {"a 0 1", "", false},
		{"a 1 1", "a 1 1", true}, {"a 1 1", "a 2 1", true}, {"a 1 1", "a 1 2", true},
		{"a 2 1", "a 1 1", false}, {"a 1 2", "a 1 1", false}, {"a 2 1", "a 1 2", false}, {"a 1 2", "a 2 1", false},
		{"a 1 0", "a 1 0, b 1 0", true}, {"b 1 0", "a 1 0, b 1 0", true}, {"a 1 0, b 1 0", "a 1 0", false}, {"a 1 0, b 1 0", "b 1 0", false},
		{"a 1 0, c 1 0", "a 1 0, b 9 9", false}, {"a 1 0, b 2 0", "a 9 9, b 1 9", false}, {"a 1 0, aa 1 0", "a 1 0, ab 1 0", false},
	} {
		below(t, state(x.a), state(x.b), x.want)
	}
}

func TestValue(t *testing.T) { // 23.1
	values(t, nil, 0)
	values(t, state("a 5 5"), 0)
	values(t, state("a 0 5"), -5)
	values(t, state("a 3 1, b 0 7, c 2 0"), -3)
	up, down := nodes(api.MaxNodes), nodes(api.MaxNodes)
	for i := range up {
		up[i].Up, up[i].Down = api.MaxUp, 0
		down[i].Up, down[i].Down = 0, api.MaxUp
	}
	values(t, up, 1<<62)
	values(t, down, -1<<62)
	down[7].Up, down[7].Down = 1, 0
	values(t, down, -63<<56+1)
}

func TestDelta(t *testing.T) { // 23.1
	for _, x := range []struct{ l, seen, want string }{
		{"", "", ""}, {"", "a 1 0", ""}, {"a 1 0", "", "a 1 0"}, {"a 1 1", "a 1 1", ""},
		{"a 2 1", "a 1 1", "a 2 1"}, {"a 1 2", "a 1 1", "a 1 2"}, {"a 1 1", "a 2 1", ""}, {"a 1 1", "a 1 2", ""},
		{"a 2 1", "a 1 2", "a 2 1"}, {"a 1 2", "a 2 1", "a 1 2"},
		{"a 1 0, b 2 0, c 3 0", "b 2 0", "a 1 0, c 3 0"}, {"a 1 0, b 2 0, c 3 0", "a 1 0, b 1 0, d 1 0", "b 2 0, c 3 0"},
	} {
		deltas(t, state(x.l), state(x.seen), state(x.want)...)
	}
	most := nodes(api.MaxNodes)
	deltas(t, most, nil, most...)
	deltas(t, most, most)
	deltas(t, most, most[1:], most[0])
}

func TestStatesOfAny(t *testing.T) { // 23.1, 23.7, 23.10: held against what is told by a map
	r := rand.New(rand.NewSource(23))
	for range 20000 {
		a, b := some(r), some(r)
		both := bookOf(a)
		both.take(b)
		merges(t, a, b, api.OK, both.state()...)
		below(t, a, b, hasAll(b, a))
		values(t, a, bookOf(a).value())
		var news []api.Node
		for _, n := range a {
			if !hasAll(b, []api.Node{n}) {
				news = append(news, n)
			}
		}
		deltas(t, a, b, news...)
		merges(t, b, news, api.OK, both.state()...) // 23.10
		below(t, delta(t, a, b), a, true)
		if t.Failed() {
			return
		}
	}
}

func TestLattice(t *testing.T) { // 23.7
	r := rand.New(rand.NewSource(7))
	someOver, someNot := false, false
	for range 5000 {
		a, b, c := some(r), some(r), some(r)
		ab := merged(t, a, b)
		merges(t, b, a, api.OK, ab...)
		merges(t, a, a, api.OK, a...)
		merges(t, ab, c, api.OK, merged(t, a, merged(t, b, c))...)
		merges(t, a, ab, api.OK, ab...)
		below(t, a, ab, true)
		below(t, b, ab, true)
		for _, over := range [][]api.Node{c, merged(t, a, c), merged(t, c, merged(t, b, a))} {
			ofA, _ := crdt.Below(a, over)
			ofB, _ := crdt.Below(b, over)
			ofBoth, _ := crdt.Below(ab, over)
			if ofBoth != (ofA && ofB) {
				t.Fatalf("%v has all of %v, %v, but not of %v", over, a, b, ab)
			}
			someOver, someNot = someOver || ofBoth, someNot || !ofBoth
		}
		if t.Failed() {
			return
		}
	}
	if !someOver || !someNot {
		t.Error("never came: a state that has all of both, or one that has not")
	}
}

// together merges states that stand in a list, put together somehow.
func together(t *testing.T, r *rand.Rand, l [][]api.Node) []api.Node {
	if len(l) == 1 {
		return l[0]
	}
	cut := 1 + r.Intn(len(l)-1)
	return merged(t, together(t, r, l[:cut]), together(t, r, l[cut:]))
}

func TestMergeInAllOrders(t *testing.T) { // 23.7, P11
	r := rand.New(rand.NewSource(11))
	for range 20 {
		l := [][]api.Node{some(r), some(r), some(r), some(r)}
		l = append(l, l[r.Intn(4)]) // one comes twice
		all := book{}
		for _, s := range l {
			all.take(s)
		}
		want := all.state()
		orders(l, func(l [][]api.Node) {
			if got := together(t, r, l); !slices.Equal(got, want) {
				t.Fatalf("%v together: %v, want %v", l, got, want)
			}
		})
	}
}

// A merge by way of too many is refused in whatever order.
func TestDeltaOfMany(t *testing.T) { // 23.10
	all := nodes(api.MaxNodes + 1)
	for _, seen := range [][]api.Node{all[1:], all[:api.MaxNodes], all[:1], all[30:40]} {
		for _, l := range [][]api.Node{all[1:], all[:api.MaxNodes], all[10:20], nil} {
			want, why := crdt.Merge(seen, l)
			merges(t, seen, delta(t, l, seen), why, want...)
		}
	}
}

func isLater(t *testing.T, a, b, want api.Stamp) {
	t.Helper()
	got := crdt.Later(a, b)
	if got.At != want.At || got.Name != want.Name || math.Float64bits(got.Value) != math.Float64bits(want.Value) {
		t.Errorf("Later(%v, %v): %v, want %v", a, b, got, want)
	}
}

func TestLater(t *testing.T) { // 23.3
	stamp := func(at int64, name string, value float64) api.Stamp {
		return api.Stamp{At: at, Name: name, Value: value}
	}
	rising := []api.Stamp{}
	for _, at := range []int64{math.MinInt64, -1, 0, 1, math.MaxInt64} {
		for _, name := range []string{"", "\x00", "9", "B", "a", "a\x00", "aa", "b", "é", "\xff"} { // no stamp's name need be one
			for _, value := range []float64{math.NaN(), math.Inf(-1), -math.MaxFloat64, -1, -5e-324, math.Copysign(0, -1), 0, 5e-324, 1, math.MaxFloat64, math.Inf(1)} {
				rising = append(rising, stamp(at, name, value))
			}
		}
	}
	for i, b := range rising {
		for _, a := range rising[:i+1] {
			isLater(t, a, b, b)
			isLater(t, b, a, b)
		}
	}
	one, other := math.Float64frombits(0x7ff8000000000001), math.Float64frombits(0xfff0000000000007)
	isLater(t, stamp(5, "a", one), stamp(5, "a", other), stamp(5, "a", one)) // neither is above: the first one, as it is
	isLater(t, stamp(5, "a", other), stamp(5, "a", one), stamp(5, "a", other))
	isLater(t, stamp(5, "a", other), stamp(5, "a", math.Inf(-1)), stamp(5, "a", math.Inf(-1)))
}

func TestStatesMemory(t *testing.T) { // 23.6
	a, b := fresh(state("a 3 0, b 1 1, c 1 1")), fresh(state("a 2 5, b 1 1, d 1 0"))
	keptA, keptB := fresh(a), fresh(b)
	text := strings.Clone("a 3 0\nb 1 1\n")
	parsed, _ := crdt.Parse(text)
	alike, _ := crdt.Parse(text)
	both, self, left, right := merged(t, a, b), merged(t, a, a), merged(t, a, nil), merged(t, nil, b)
	news, all := delta(t, a, b), delta(t, a, nil)
	if !areApart(a, b, both, self, left, right, news, all, parsed, alike, named(text)) {
		t.Error("names share memory")
	}
	for _, l := range [][]api.Node{both, self, left, right, news, all, parsed} {
		spoil(l)
	}
	if !slices.Equal(a, keptA) || !slices.Equal(b, keptB) {
		t.Error("what was handed in is changed, or an answer is a piece of it:", a, b)
	}
	for _, l := range [][]api.Node{a[:0], a[:1], nil} { // with spare room behind it
		merged(t, l, b)
		delta(t, b, l)
		if !slices.Equal(a, keptA) {
			t.Fatal("spare room is written to:", a)
		}
	}
	again, _ := crdt.Parse(text)
	if !slices.Equal(again, state("a 3 0, b 1 1")) {
		t.Error("Parse, again:", again)
	}
	s := api.Stamp{At: 1, Name: strings.Clone("name")}
	if got := crdt.Later(s, s); !areApart(named(s.Name, got.Name)) {
		t.Error("Later: the name shares memory")
	}
}
