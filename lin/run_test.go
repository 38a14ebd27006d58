package lin_test

import (
	"math"
	"math/rand"
	"slices"
	"testing"

	"abacus/api"
	"abacus/lin"
)

func TestRun(t *testing.T) { // 17.2, and the words
	const top = math.MaxUint64
	for _, x := range []struct {
		name   string
		models []api.Model
		l      []api.Call
		want   bool
	}{
		{"nothing", nil, nil, true},
		{"no calls", oneEach, nil, true},
		{"what a word has at first", []api.Model{{Kind: api.ModelWord, Word: 5}}, inTurn(read(5)), true},
		{"something else", []api.Model{{Kind: api.ModelWord, Word: 5}}, inTurn(read(0)), false},
		{"the greatest word", []api.Model{{Kind: api.ModelWord, Word: top}}, inTurn(read(top), add(1, 0), read(0)), true},
		{"what was written", aWord, inTurn(write(3), read(3), write(0), read(0)), true},
		{"what was written first", aWord, inTurn(write(3), write(4), read(3)), false},
		{"adds", aWord, inTurn(add(2, 2), add(3, 5), read(5)), true},
		{"an add that tells what was there", aWord, inTurn(add(2, 2), add(3, 2)), false},
		{"adds that go round", aWord, inTurn(add(top, top), add(3, 2), add(0, 2)), true},
		{"swaps", aWord, inTurn(cas(0, 5, true), read(5), cas(0, 6, false), read(5), cas(5, 5, true)), true},
		{"a swap that should not be done", aWord, inTurn(cas(1, 5, true)), false},
		{"a swap that should be done", aWord, inTurn(cas(0, 5, false)), false},
		{"a refused swap changes nothing", aWord, inTurn(cas(1, 5, false), read(5)), false},
		{"a queue", queue(2), inTurn(take(0, false), put(1, true), put(2, true), put(3, false), take(1, true), put(4, true), take(2, true), take(4, true), take(0, false)), true},
		{"a queue is no stack", queue(2), inTurn(put(1, true), put(2, true), take(2, true)), false},
		{"a queue with room", queue(2), inTurn(put(1, true), put(2, false)), false},
		{"a queue without room", queue(1), inTurn(put(1, true), put(2, true)), false},
		{"a queue that has something", queue(1), inTurn(put(1, true), take(0, false)), false},
		{"a queue that has nothing", queue(1), inTurn(take(0, true)), false},
		{"what was refused is not there", queue(1), inTurn(put(1, true), put(2, false), take(1, true), take(2, true)), false},
		{"values 0, the greatest, and one twice", queue(9), inTurn(put(0, true), put(top, true), put(0, true), take(0, true), take(top, true), take(0, true)), true},
		{"a stack", stack(2), inTurn(pop(0, false), push(1, true), push(2, true), push(3, false), pop(2, true), push(4, true), pop(4, true), pop(1, true), pop(0, false)), true},
		{"a stack is no queue", stack(2), inTurn(push(1, true), push(2, true), pop(1, true)), false},
		{"a stack with room", stack(2), inTurn(push(1, false)), false},
		{"a stack without room", stack(1), inTurn(push(1, true), push(1, true)), false},
		{"places", places(2), inTurn(leave(false), try(true), try(true), try(false), leave(true), try(true), leave(true), leave(true), leave(false)), true},
		{"a place that is free", places(2), inTurn(try(true), try(false)), false},
		{"a place that is not", places(1), inTurn(try(true), try(true)), false},
		{"a place that is held", places(1), inTurn(try(true), leave(false)), false},
		{"a place that nobody holds", places(1), inTurn(leave(true)), false},
		{"much room", queue(api.MaxRoom), inTurn(slices.Repeat([]api.Call{put(1, true)}, api.MaxCalls)...), true},
		{"whatever the moments", aWord, []api.Call{from(5, 6, write(1)), from(0, 1, read(1))}, true},
		{"whatever the moments, and not", aWord, []api.Call{from(5, 6, read(1)), from(0, 1, write(1))}, false},
		{"what has not ended is done", aWord, []api.Call{open(write(3)), from(0, 1, read(3)), open(add(2, 0)), from(0, 1, read(5)), open(cas(5, 9, false)), open(cas(5, 1, false)), open(read(0)), from(0, 1, read(9))}, true},
		{"what has not ended is not left out", aWord, []api.Call{open(write(3)), from(0, 1, read(0))}, false},
		{"what has not ended, of a queue", queue(1), []api.Call{open(take(0, false)), open(put(1, false)), open(put(2, false)), from(0, 1, take(1, true)), from(0, 1, take(0, false)), open(put(3, false)), open(take(0, false)), from(0, 1, take(0, false))}, true},
		{"what has not ended, of places", places(1), []api.Call{open(leave(false)), open(try(false)), open(try(false)), from(0, 1, try(false)), open(leave(false)), from(0, 1, leave(false))}, true},
		{"four objects", oneEach, inTurn(of(1, put(5, true)), read(1), of(2, push(6, true)), of(3, try(true)), write(2), of(1, take(5, true)), of(2, pop(6, true)), of(3, leave(true)), read(2)), true},
		{"the second object is at fault", oneEach, inTurn(read(1), of(1, put(5, true)), of(2, pop(5, true))), false},
		{"two of one kind are apart", []api.Model{{Kind: api.ModelWord}, {Kind: api.ModelWord, Word: 7}}, inTurn(write(3), of(1, read(7)), read(3)), true},
	} {
		if got, why := lin.Run(x.models, x.l); got != x.want || why != api.OK {
			t.Errorf("%s: %v, error %d", x.name, got, why)
		}
	}
}

func TestRunAgainstTheWords(t *testing.T) { // 17.2
	r := rand.New(rand.NewSource(2))
	yes, no := 0, 0
	for range 50000 {
		models := randomModels(r, 4)
		l := randomHistory(r, models, 1+r.Intn(20), 0, 4, 0, float64(r.Intn(2))*0.1)
		if r.Intn(2) == 0 {
			slices.SortFunc(l, func(a, b api.Call) int { return a.Start - b.Start })
		}
		want := runs(models, l)
		if got, why := lin.Run(models, l); got != want || why != api.OK {
			t.Fatalf("%v: %v: %v, error %d, want %v", models, l, got, why, want)
		}
		if want {
			yes++
		} else {
			no++
		}
	}
	if yes < 1000 || no < 1000 {
		t.Error("something came seldom:", yes, no)
	}
}
