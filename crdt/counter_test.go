package crdt_test

import (
	"fmt"
	"math"
	"math/rand"
	"runtime"
	"slices"
	"strings"
	"sync"
	"testing"

	"abacus/api"
	"abacus/crdt"
)

func TestNew(t *testing.T) { // 23.4
	for _, name := range []string{"a", "_", "Z", "n0", "aB9_", long} {
		c := made(t, name)
		has(t, c)
		adds(t, c, 1, api.OK)
		has(t, c, named(name)...)
	}
	for _, name := range []string{"", "9", "0a", "a-b", "a b", " a", "a ", "a\n", "a\x00", "é", "\xff", "a\xff", long + "x", long + long} {
		if c, why := crdt.New(name); c != nil || why != api.ErrName {
			t.Errorf("New(%q): error %d", name, why)
		}
	}
}

func TestCount(t *testing.T) { // 23.4
	c := made(t, "b")
	adds(t, c, 0, api.OK)
	subs(t, c, 0, api.OK)
	has(t, c) // its own is left out
	adds(t, c, 3, api.OK)
	has(t, c, state("b 3 0")...)
	subs(t, c, 5, api.OK)
	has(t, c, state("b 3 5")...)
	adds(t, c, 2, api.OK)
	adds(t, c, 0, api.OK)
	subs(t, c, 0, api.OK)
	has(t, c, state("b 5 5")...)
	takes(t, c, state("a 1 0, c 0 7"), api.OK)
	has(t, c, state("a 1 0, b 5 5, c 0 7")...)
	subs(t, c, 1, api.OK)
	has(t, c, state("a 1 0, b 5 6, c 0 7")...)
	down := made(t, "a")
	subs(t, down, 4, api.OK)
	has(t, down, state("a 0 4")...)
}

func TestCountUpToTheMost(t *testing.T) { // 23.4: MaxUp, and one past it, of each side alone
	for _, x := range []struct {
		count, other func(*testing.T, *crdt.Counter, uint64, api.Errno)
		node         func(n, other uint64) api.Node
	}{
		{adds, subs, func(n, other uint64) api.Node { return api.Node{Name: "a", Up: n, Down: other} }},
		{subs, adds, func(n, other uint64) api.Node { return api.Node{Name: "a", Up: other, Down: n} }},
	} {
		c := made(t, "a")
		for _, n := range []uint64{api.MaxUp + 1, 1 << 63, math.MaxUint64} {
			x.count(t, c, n, api.ErrFull)
			has(t, c)
		}
		x.count(t, c, api.MaxUp, api.OK)
		has(t, c, x.node(api.MaxUp, 0))
		for _, n := range []uint64{1, api.MaxUp, 1 << 63, math.MaxUint64 - api.MaxUp + 1, math.MaxUint64} {
			x.count(t, c, n, api.ErrFull)
			has(t, c, x.node(api.MaxUp, 0))
		}
		x.count(t, c, 0, api.OK)
		x.other(t, c, api.MaxUp-1, api.OK)
		x.other(t, c, 2, api.ErrFull)
		x.other(t, c, 1, api.OK)
		x.other(t, c, 1, api.ErrFull)
		has(t, c, x.node(api.MaxUp, api.MaxUp))
		low := made(t, "a")
		x.count(t, low, 5, api.OK)
		x.count(t, low, api.MaxUp-4, api.ErrFull)
		x.count(t, low, math.MaxUint64-4, api.ErrFull) // the sum of both would wrap round to 0
		x.count(t, low, api.MaxUp-5, api.OK)
		has(t, low, x.node(api.MaxUp, 0))
	}
}

func TestCountBesideTheMostOthers(t *testing.T) { // 23.4: MaxNodes others, and one less
	most := nodes(api.MaxNodes)
	c := made(t, "a")
	takes(t, c, most, api.OK)
	for range 2 {
		adds(t, c, 1, api.ErrMany)
		subs(t, c, 1, api.ErrMany)
		adds(t, c, api.MaxUp, api.ErrMany)
		adds(t, c, api.MaxUp+1, api.ErrFull) // ahead of ErrMany
		subs(t, c, math.MaxUint64, api.ErrFull)
		adds(t, c, 0, api.OK)
		subs(t, c, 0, api.OK)
		has(t, c, most...)
		takes(t, c, most, api.OK)
	}
	c = made(t, "a")
	takes(t, c, most[1:], api.OK)
	subs(t, c, 1, api.OK)
	adds(t, c, 2, api.OK) // it has something of its own now
	has(t, c, join(state("a 2 1"), most[1:])...)
	own := made(t, most[9].Name) // one of those that were told
	takes(t, own, most, api.OK)
	adds(t, own, 5, api.OK)
	want := slices.Clone(most)
	want[9].Up += 5
	has(t, own, want...)
}

func TestTake(t *testing.T) { // 23.4
	c := made(t, "b")
	takes(t, c, nil, api.OK)
	takes(t, c, []api.Node{}, api.OK)
	has(t, c)
	adds(t, c, 3, api.OK)
	for range 2 {
		takes(t, c, state("a 1 1, b 2 4"), api.OK) // its own, too: the greater one
		has(t, c, state("a 1 1, b 3 4")...)
	}
	takes(t, c, state("a 0 9"), api.OK)
	takes(t, c, state("b 1 1"), api.OK)
	has(t, c, state("a 1 9, b 3 4")...)
	adds(t, c, 1, api.OK)
	subs(t, c, 1, api.OK)
	has(t, c, state("a 1 9, b 4 5")...)
	takes(t, c, c.State(), api.OK)
	has(t, c, state("a 1 9, b 4 5")...)
	takes(t, c, state("b 72057594037927936 0"), api.OK)
	adds(t, c, 1, api.ErrFull)
	has(t, c, state("a 1 9, b 72057594037927936 5")...)
}

func TestTakeRefuses(t *testing.T) { // 23.4, P2
	few, full := made(t, "a"), made(t, "a")
	adds(t, few, 7, api.OK)
	most := join(state("a 7 0"), nodes(api.MaxNodes-1))
	takes(t, full, most, api.OK)
	for _, x := range wrongStates() {
		takes(t, few, x.l, api.ErrState)
		takes(t, full, x.l, api.ErrState) // ahead of ErrMany
		has(t, few, state("a 7 0")...)
		has(t, full, most...)
	}
	takes(t, full, state("b 1 0"), api.ErrMany)
	takes(t, full, state("a 9 9, b 1 0"), api.ErrMany)
	takes(t, few, nodes(api.MaxNodes), api.ErrMany)
	has(t, few, state("a 7 0")...)
	has(t, full, most...)
	takes(t, full, most[3:], api.OK)
	takes(t, few, nodes(api.MaxNodes-1), api.OK)
	has(t, few, most...)
	nothing := made(t, "a") // which has nothing of its own: it is left out
	takes(t, nothing, nodes(api.MaxNodes), api.OK)
	takes(t, nothing, state("a 1 0"), api.ErrMany)
	has(t, nothing, nodes(api.MaxNodes)...)
}

func TestNil(t *testing.T) { // 23.6
	var c *crdt.Counter
	for range 2 {
		for _, n := range []uint64{0, 1, math.MaxUint64} {
			adds(t, c, n, api.ErrNil)
			subs(t, c, n, api.ErrNil)
		}
		for _, l := range [][]api.Node{nil, state("a 1 0"), named("9")} {
			takes(t, c, l, api.ErrNil)
		}
		has(t, c)
	}
}

func TestTwoCountersAreApart(t *testing.T) { // P4
	a, b := made(t, "a"), made(t, "a")
	adds(t, a, 1, api.OK)
	has(t, b)
	takes(t, b, state("b 1 0"), api.OK)
	has(t, a, state("a 1 0")...)
}

func TestCounterMemory(t *testing.T) { // 23.6
	name := strings.Clone("bb")
	c, _ := crdt.New(name)
	adds(t, c, 3, api.OK)
	told := fresh(state("a 1 1, bb 2 4, c 5 0"))
	takes(t, c, told, api.OK)
	kept := fresh(told)
	one, other := c.State(), c.State()
	if !areApart(told, one, other, named(name)) {
		t.Error("names share memory")
	}
	want := state("a 1 1, bb 3 4, c 5 0")
	spoil(one)
	if !slices.Equal(other, want) || !slices.Equal(told, kept) {
		t.Error("an answer is a piece of another one, or of what was handed in:", other, told)
	}
	has(t, c, want...)
	spoil(told)
	spoil(other)
	has(t, c, want...)
}

// A counter by chance, held against what is told by a map.
func TestCounterOfAny(t *testing.T) { // 23.4, 23.9
	r := rand.New(rand.NewSource(4))
	seen := map[api.Errno]int{}
	for range 300 {
		name := neighbours[r.Intn(len(neighbours))]
		c := made(t, name)
		all := book{}
		before := c.State()
		for range 100 {
			switch r.Intn(3) {
			case 0, 1:
				n := []uint64{0, 1, 2, 5, api.MaxUp / 3, api.MaxUp, api.MaxUp + 1, math.MaxUint64}[r.Intn(8)]
				side := r.Intn(2)
				own := all[name]
				want := api.OK
				if n > api.MaxUp || own[side]+n > api.MaxUp {
					want = api.ErrFull
				} else if n > 0 && own == [2]uint64{} && len(all.state()) == api.MaxNodes {
					want = api.ErrMany
				} else {
					own[side] += n
					all[name] = own
				}
				[]func(*testing.T, *crdt.Counter, uint64, api.Errno){adds, subs}[side](t, c, n, want)
				seen[want]++
			case 2:
				l := some(r)
				if r.Intn(4) == 0 {
					l = nodes(40 + r.Intn(26))
				}
				both := bookOf(all.state())
				both.take(l)
				want := api.OK
				if len(l) > api.MaxNodes {
					want = api.ErrState
				} else if len(both) > api.MaxNodes {
					want = api.ErrMany
				} else {
					all = both
				}
				takes(t, c, l, want)
				seen[want]++
			}
			has(t, c, all.state()...)
			below(t, before, c.State(), true)
			before = c.State()
			if t.Failed() {
				return
			}
		}
	}
	if seen[api.ErrFull] == 0 || seen[api.ErrMany] == 0 || seen[api.ErrState] == 0 {
		t.Error("never came:", seen)
	}
}

func TestOwnValueHangsOnNoOrder(t *testing.T) { // 23.9
	steps := []func(c *crdt.Counter){
		func(c *crdt.Counter) { c.Add(3) },
		func(c *crdt.Counter) { c.Sub(5) },
		func(c *crdt.Counter) { c.Add(1) },
		func(c *crdt.Counter) { c.Sub(0) },
		func(c *crdt.Counter) { c.Sub(1 << 40) },
		func(c *crdt.Counter) { c.Add(1 << 55) },
	}
	orders(steps, func(steps []func(*crdt.Counter)) {
		c := made(t, "a")
		for _, step := range steps {
			step(c)
		}
		has(t, c, api.Node{Name: "a", Up: 4 + 1<<55, Down: 5 + 1<<40})
	})
}

// net is counters that tell one another what they have, by a way on which much is late, comes twice, or is lost.
type net struct {
	t        *testing.T
	r        *rand.Rand
	counters []*crdt.Counter
	counted  book
	knows    [][][]api.Node // of each node, what it knows each other one to have
	under    []letter       // that are on their way
}

type letter struct {
	from, to int
	l        []api.Node
	whole    []api.Node // what who sent it had
}

func newNet(t *testing.T, r *rand.Rand, names []string) *net {
	x := &net{t: t, r: r, counted: book{}}
	for _, name := range names {
		x.counters = append(x.counters, made(t, name))
		x.knows = append(x.knows, make([][]api.Node, len(names)))
	}
	return x
}

func (x *net) count(i int, name string) {
	n := uint64(x.r.Intn(5))
	own := x.counted[name]
	if x.r.Intn(2) == 0 {
		adds(x.t, x.counters[i], n, api.OK)
		own[0] += n
	} else {
		subs(x.t, x.counters[i], n, api.OK)
		own[1] += n
	}
	x.counted[name] = own
}

// letter is what one tells another: what it has, or that without what it knows the other one to have.
func (x *net) letter(from, to int) letter {
	whole := x.counters[from].State()
	l := whole
	if x.r.Intn(2) == 0 {
		l = delta(x.t, whole, x.knows[from][to])
	}
	return letter{from, to, l, whole}
}

// comes has a letter come; that it did is told to who sent it, or not.
func (x *net) comes(m letter) {
	takes(x.t, x.counters[m.to], m.l, api.OK)
	below(x.t, m.whole, x.counters[m.to].State(), true)
	if x.r.Intn(2) == 0 {
		x.knows[m.from][m.to] = merged(x.t, x.knows[m.from][m.to], m.whole)
	}
}

func (x *net) step(names []string) {
	i, k := x.r.Intn(len(names)), x.r.Intn(len(names))
	switch x.r.Intn(4) {
	case 0:
		x.count(i, names[i])
	case 1:
		x.under = append(x.under, x.letter(i, k))
	default:
		if n := len(x.under); n > 0 {
			at := x.r.Intn(n)
			if x.r.Intn(3) > 0 {
				x.comes(x.under[at])
			}
			if x.r.Intn(2) == 0 { // else it comes again
				x.under = slices.Delete(x.under, at, at+1)
			}
		}
	}
}

// end has each take what is the last of each, in some order.
func (x *net) end() {
	var last []letter
	for i := range x.counters {
		for k := range x.counters {
			last = append(last, x.letter(i, k))
		}
	}
	last = append(last, x.under...) // what is late comes yet
	x.r.Shuffle(len(last), func(i, k int) { last[i], last[k] = last[k], last[i] })
	for _, m := range last {
		takes(x.t, x.counters[m.to], m.l, api.OK)
	}
}

func TestToldInAnyOrder(t *testing.T) { // 23.8, 23.10, P11
	r := rand.New(rand.NewSource(8))
	for range 150 {
		names := slices.Clone(neighbours)
		r.Shuffle(len(names), func(i, k int) { names[i], names[k] = names[k], names[i] })
		names = names[:1+r.Intn(6)]
		x := newNet(t, r, names)
		for range 200 {
			x.step(names)
		}
		x.end()
		for _, c := range x.counters {
			has(t, c, x.counted.state()...)
		}
		if t.Failed() {
			return
		}
	}
}

// Many count by one counter, others have it take states, others look: nothing is lost, nothing is twice, and it only grows.
func TestManyAtOneTime(t *testing.T) { // 23.4, 23.9, P4, P5
	c := made(t, "a")
	const workers, each = 8, 500
	var all sync.WaitGroup
	for w := range workers {
		all.Go(func() {
			for range each {
				adds(t, c, uint64(w+1), api.OK)
				subs(t, c, 1, api.OK)
				adds(t, c, 0, api.OK)
			}
		})
		all.Go(func() {
			once := c.State()
			for n := range uint64(each) {
				takes(t, c, []api.Node{{Name: fmt.Sprint("b", w%4), Up: n + 1, Down: uint64(w)}}, api.OK)
				takes(t, c, once, api.OK) // with its own as it once was
				if n%50 == 0 {
					once = c.State()
				}
			}
		})
		all.Go(func() {
			before := c.State()
			for range each {
				c.Value()
				after := c.State()
				below(t, before, after, true)
				before = after
			}
		})
	}
	all.Wait()
	has(t, c, state("a 18000 4000, b0 500 4, b1 500 5, b2 500 6, b3 500 7")...)
}

func TestFullAtOneTime(t *testing.T) { // 23.4: as much as may be, not more, whoever counts
	c := made(t, "a")
	adds(t, c, api.MaxUp-1000, api.OK)
	added := make([]int, 8)
	var all sync.WaitGroup
	for w := range added {
		all.Go(func() {
			for range 300 {
				switch c.Add(1) {
				case api.OK:
					added[w]++
				case api.ErrFull:
				default:
					t.Error("Add is refused")
				}
			}
		})
	}
	all.Wait()
	sum := 0
	for _, n := range added {
		sum += n
	}
	if sum != 1000 {
		t.Error("so many were added:", sum)
	}
	has(t, c, api.Node{Name: "a", Up: api.MaxUp})
}

func TestTakesOfManyAtOneTime(t *testing.T) { // 23.4: each is taken whole, or not at all
	c := made(t, "a")
	const each = 4
	taken := make([]bool, 40)
	var all sync.WaitGroup
	for w := range taken {
		all.Go(func() {
			var l []api.Node
			for n := range each {
				l = append(l, api.Node{Name: fmt.Sprintf("w%03d", each*w+n), Up: 1})
			}
			switch c.Take(l) {
			case api.OK:
				taken[w] = true
			case api.ErrMany:
			default:
				t.Error("Take is refused")
			}
			runtime.Gosched()
		})
	}
	all.Wait()
	var want []api.Node
	for w, is := range taken {
		for n := range each {
			if is {
				want = append(want, api.Node{Name: fmt.Sprintf("w%03d", each*w+n), Up: 1})
			}
		}
	}
	if len(want) != api.MaxNodes {
		t.Error("so many nodes were taken:", len(want))
	}
	has(t, c, want...)
}
