package lin_test

import (
	"math/rand"
	"slices"
	"testing"
	"time"

	"abacus/api"
	"abacus/lin"
)

// Histories of many calls at one time, where to go through all orders would take for ever.

// soon is what Order answers, if it does within a time that is long for it.
func soon(t *testing.T, models []api.Model, l []api.Call) ([]int, bool) {
	t.Helper()
	type answer struct {
		order []int
		found bool
		why   api.Errno
	}
	told := make(chan answer, 1)
	go func() {
		order, found, why := lin.Order(models, l)
		told <- answer{order, found, why}
	}()
	select {
	case a := <-told:
		if a.why != api.OK || a.found && !isOrder(models, l, a.order) {
			t.Errorf("%v, %v, error %d", a.order, a.found, a.why)
		}
		return a.order, a.found
	case <-time.After(time.Minute):
		t.Fatal("no answer")
	}
	return nil, false
}

// many is calls that a function makes of numbers.
func many(n int, call func(x uint64) api.Call) []api.Call {
	var l []api.Call
	for i := range n {
		l = append(l, call(uint64(i)+1))
	}
	return l
}

// during has calls from one moment to another.
func during(start, end int, l []api.Call) []api.Call {
	for i := range l {
		l[i].Start, l[i].End = start, end
	}
	return l
}

// never has calls that have not ended.
func never(l []api.Call) []api.Call {
	for i := range l {
		l[i] = open(l[i])
	}
	return l
}

// after has calls one behind another, from a moment on.
func after(start int, l ...api.Call) []api.Call {
	for i := range l {
		l[i].Start, l[i].End = start+2*i, start+2*i+1
	}
	return l
}

func shuffled(l []api.Call) []api.Call {
	rand.New(rand.NewSource(8)).Shuffle(len(l), func(i, j int) { l[i], l[j] = l[j], l[i] })
	return l
}

func TestGreatHistoriesOfAWord(t *testing.T) { // 17.3, P1
	count := func(x uint64) api.Call { return add(1, x) }
	ends := func(l ...[]api.Call) []api.Call { return slices.Concat(l...) }
	stale := after(200, read(5), read(6), read(5))
	for _, x := range []struct {
		name string
		l    []api.Call
		want bool
	}{
		{"writes", during(0, 9, many(64, write)), true},
		{"writes, and a read of what nobody wrote", during(0, 9, append(many(63, write), read(99))), false},
		{"writes, and reads of all", during(0, 9, ends(many(32, read), many(32, write))), true},
		{"writes, reads, one that is stale", ends(during(0, 9, ends(many(30, write), many(28, read))), stale), false},
		{"writes, late reads, one that is stale", ends(during(0, 9, many(30, write)), during(5, 300, many(28, read)), stale), false},
		{"writes of two values, one read that is stale", ends(during(0, 99, many(31, func(uint64) api.Call { return write(5) })), during(0, 50, many(30, func(uint64) api.Call { return write(6) })), stale), false},
		{"counting", during(0, 9, shuffled(many(64, count))), true},
		{"counting, one number twice", during(0, 9, shuffled(append(many(63, count), add(1, 40)))), false},
		{"counting by writes and adds", during(0, 9, ends(many(31, func(x uint64) api.Call { return write(10 * x) }), shuffled(many(31, func(x uint64) api.Call { return add(1, 10*x+1) })))), true},
		{"counting by writes and adds, one from nowhere", during(0, 9, ends(many(31, func(x uint64) api.Call { return write(10 * x) }), shuffled(many(31, func(x uint64) api.Call { return add(2, 10*x+1) })))), false},
		{"swaps in a ring", during(0, 9, shuffled(many(64, func(x uint64) api.Call { return cas((x-1)%8, x%8, true) }))), true},
		{"swaps in a ring with a gap", during(0, 9, shuffled(many(64, func(x uint64) api.Call { return cas((x-1)%9, x%9, true) }))[1:]), false},
		{"swaps that were refused", during(0, 9, ends(many(31, write), many(31, func(x uint64) api.Call { return cas(x, 7, false) }))), true},
		{"writes that have not ended, and a read", append(never(many(63, write)), from(5, 6, read(63))), true},
		{"writes that have not ended, and a read of none", append(never(many(63, write)), from(5, 6, read(64))), false},
		{"writes that have not ended, and stale reads", ends(never(many(61, write)), stale), false},
		{"adds that have not ended, and a read", append(never(many(63, func(uint64) api.Call { return add(1, 0) })), from(5, 6, read(40))), true},
		{"adds that have not ended, and a read of too much", append(never(many(63, func(uint64) api.Call { return add(1, 0) })), from(5, 6, read(64))), false},
		{"writes, an add that has not ended, a stale read", ends(during(0, 9, many(30, func(x uint64) api.Call { return write(10 * x) })), never([]api.Call{add(3, 0)}), during(0, 300, many(28, func(x uint64) api.Call { return read(10 * x) })), after(200, read(50), read(60), read(50))), false},
	} {
		t.Run(x.name, func(t *testing.T) {
			if order, found := soon(t, aWord, x.l); found != x.want {
				t.Error(order, found)
			}
		})
	}
}

// pileOf is the calls and the models of a queue, or of a stack.
type pileOf struct {
	name    string
	in, out func(x uint64, ok bool) api.Call
	sized   func(size int) []api.Model
}

var piles = []pileOf{{"queue", put, take, queue}, {"stack", push, pop, stack}}

func (p pileOf) ins(n int) []api.Call {
	return many(n, func(x uint64) api.Call { return p.in(x, true) })
}

func (p pileOf) outs(n int) []api.Call {
	return many(n, func(x uint64) api.Call { return p.out(x, true) })
}

// rounds is so many calls that four workers make, four at a time.
func rounds(start int, l []api.Call) []api.Call {
	for i := range l {
		l[i].Start, l[i].End = start+10*(i/4), start+10*(i/4)+8
	}
	return l
}

func TestGreatHistoriesOfQueuesAndStacks(t *testing.T) { // 17.3, P1
	for _, p := range piles {
		join := func(l ...[]api.Call) []api.Call { return slices.Concat(l...) }
		inOrder := p.outs(32) // as four workers take what four have put
		if p.name == "stack" {
			slices.Reverse(inOrder)
		}
		crossed := rounds(1000, slices.Clone(inOrder))
		crossed[27].Got, crossed[28].Got = crossed[28].Got, crossed[27].Got
		for _, x := range []struct {
			name string
			size int
			l    []api.Call
			want bool
		}{
			{"puts", 64, during(0, 9, p.ins(64)), true},
			{"puts, one too many", 63, during(0, 9, p.ins(64)), false},
			{"puts, half of them refused", 32, during(0, 9, append(p.ins(32), many(32, func(x uint64) api.Call { return p.in(x, false) })...)), true},
			{"puts, half of them refused, with more room", 33, during(0, 9, append(p.ins(32), many(32, func(x uint64) api.Call { return p.in(x, false) })...)), false},
			{"puts and takes", 64, during(0, 9, join(p.ins(32), p.outs(32))), true},
			{"puts and takes, little room", 1, during(0, 9, join(p.outs(32), p.ins(32))), true},
			{"puts and takes, one of nothing", 64, during(0, 9, join(p.ins(31), p.outs(32))), false},
			{"puts and takes, then nothing is left", 20, join(during(0, 9, join(p.ins(20), p.outs(20))), after(20, p.out(0, false))), true},
			{"puts and takes, then something is left", 20, join(during(0, 9, join(p.ins(20), p.outs(19))), after(20, p.out(0, false))), false},
			{"puts, then takes one behind another", 20, join(during(0, 9, p.ins(20)), after(20, shuffled(p.outs(20))...)), true},
			{"puts, then takes one behind another, too little room", 19, join(during(0, 9, p.ins(20)), after(20, shuffled(p.outs(20))...)), false},
			{"puts, then takes, too little room", 16, join(during(0, 9, p.ins(20)), during(20, 29, p.outs(20))), false},
			{"takes of as many values as there are calls", 64, during(0, 9, p.outs(64)), false},
			{"three values, then takes one behind another", 64, join(during(0, 9, many(30, func(x uint64) api.Call { return p.in(x%3, true) })), after(20, many(30, func(x uint64) api.Call { return p.out(x%3, true) })...)), true},
			{"three values, then takes, too many of one", 64, join(during(0, 9, many(30, func(x uint64) api.Call { return p.in(x%3, true) })), after(20, many(30, func(x uint64) api.Call { return p.out(x%30%29%3, true) })...)), false},
			{"four workers put, then four take", 32, join(rounds(0, p.ins(32)), rounds(1000, slices.Clone(inOrder))), true},
			{"four workers put, then four take, in the wrong order at the end", 32, join(rounds(0, p.ins(32)), crossed), false},
			{"puts that have not ended, and takes", 8, join(never(p.ins(30)), during(0, 9, p.outs(30))), true},
			{"puts, and takes that have not ended", 8, join(during(0, 9, p.ins(30)), never(p.outs(30)), after(20, p.out(3, true), p.out(0, false))), true},
			{"puts and takes that have not ended, one value taken twice", 8, join(never(p.ins(30)), never(p.outs(30)), after(20, p.out(3, true), p.out(3, true))), false},
		} {
			t.Run(p.name+": "+x.name, func(t *testing.T) {
				if order, found := soon(t, p.sized(x.size), x.l); found != x.want {
					t.Error(order, found)
				}
			})
		}
	}
}

func TestGreatHistoriesOfPlaces(t *testing.T) { // 17.3, P1
	tries := func(n int, ok bool) []api.Call { return slices.Repeat([]api.Call{try(ok)}, n) }
	leaves := func(n int, ok bool) []api.Call { return slices.Repeat([]api.Call{leave(ok)}, n) }
	for _, x := range []struct {
		name string
		size int
		l    []api.Call
		want bool
	}{
		{"just as many as there are", 32, during(0, 9, append(tries(32, true), tries(32, false)...)), true},
		{"refused, though one is free", 33, during(0, 9, append(tries(32, true), tries(32, false)...)), false},
		{"in and out", 1, during(0, 9, append(leaves(32, true), tries(32, true)...)), true},
		{"one leaves too often", 40, during(0, 9, append(leaves(32, true), tries(31, true)...)), false},
		{"all kinds", 3, during(0, 9, slices.Concat(leaves(16, true), tries(16, true), leaves(16, false), tries(16, false))), true},
		{"some that have not ended", 3, slices.Concat(never(tries(30, false)), during(0, 9, leaves(30, true)), after(20, leave(false), try(true))), true},
		{"some that have not ended, too few", 3, slices.Concat(never(tries(29, false)), during(0, 9, leaves(30, true))), false},
	} {
		t.Run(x.name, func(t *testing.T) {
			if order, found := soon(t, places(x.size), x.l); found != x.want {
				t.Error(order, found)
			}
		})
	}
}

// Many objects, each with a few calls, all at one time: who looked at all of them together would have no end.
func TestManyObjects(t *testing.T) { // 17.5, P1
	models := slices.Repeat(aWord, api.MaxObjects)
	var l []api.Call
	for object := range models {
		for _, c := range []api.Call{read(2), write(1), write(2), read(1)} {
			l = append(l, of(object, c))
		}
	}
	order, found := soon(t, models, atOnce(l...))
	if !found || !slices.Equal(order[:4], []int{1, 2, 0, 5}) && !slices.Equal(order[:4], []int{1, 3, 2, 0}) {
		t.Error(order, found)
	}
	l[63].Got = 3
	if order, found := soon(t, models, atOnce(l...)); found {
		t.Error(order)
	}
	if each, why := lin.Each(models, l); why != api.OK || slices.Index(each, false) != 15 {
		t.Error(each, why)
	}
}

func TestGreatRandomHistories(t *testing.T) { // 17.7, 17.8
	r := rand.New(rand.NewSource(9))
	for range 300 {
		models := randomModels(r, 3)
		l := randomHistory(r, models, api.MaxCalls, 1+r.Intn(8), 2+r.Intn(20), float64(r.Intn(2))*0.05, 0)
		if _, found := soon(t, models, l); !found {
			t.Fatalf("%v\n%+v", models, l)
		}
	}
}
