package lin_test

import (
	"math"
	"math/rand"
	"slices"
	"testing"

	"abacus/api"
	"abacus/lin"
)

func TestExamples(t *testing.T) { // examples 1 to 4
	orders(t, aWord, []api.Call{from(0, 3, write(1)), from(1, 2, read(1))}, []int{0, 1})
	orders(t, aWord, []api.Call{from(0, 1, read(1)), from(2, 3, write(1))}, nil)
	orders(t, aWord, []api.Call{from(0, 1, write(1)), from(2, 3, read(0))}, nil)
	orders(t, aWord, []api.Call{from(0, 9, read(0)), from(1, 2, write(1)), from(3, 4, read(1))}, []int{0, 1, 2})
	orders(t, queue(2), []api.Call{from(0, 5, put(1, true)), from(1, 2, put(2, true)), from(3, 4, take(2, true))}, []int{1, 0, 2})
	orders(t, queue(2), []api.Call{from(0, 5, put(1, true)), from(1, 2, put(2, true)), from(3, 4, take(1, true))}, []int{0, 1, 2})
	orders(t, places(1), []api.Call{from(0, 2, try(true)), from(1, 3, try(true)), from(4, 5, leave(true))}, nil)
	orders(t, places(1), []api.Call{from(0, 1, try(true)), from(2, 9, leave(true)), from(3, 4, try(true))}, []int{0, 1, 2})
	orders(t, aWord, []api.Call{from(0, 1, add(1, 1)), from(2, 3, add(1, 1))}, nil)
	orders(t, aWord, []api.Call{open(from(0, 0, write(5))), from(3, 4, read(5))}, []int{0, 1})
	orders(t, aWord, []api.Call{open(from(0, 0, write(5))), from(3, 4, read(0))}, []int{1})
}

func TestOrder(t *testing.T) { // 17.3, and the words
	none := []int{}
	later := func(start int, c api.Call) api.Call { return open(from(start, 0, c)) }
	for _, x := range []struct {
		name   string
		models []api.Model
		l      []api.Call
		want   []int
	}{
		{"nothing", nil, nil, none},
		{"no call", oneEach, nil, none},
		{"one call", aWord, inTurn(read(0)), []int{0}},
		{"one call that has no order", aWord, inTurn(read(1)), nil},
		{"one call that has not ended", aWord, []api.Call{later(0, write(1))}, none},
		{"none that has ended", oneEach, []api.Call{later(0, write(1)), of(1, later(3, put(2, false))), of(3, later(0, leave(false)))}, none},
		{"moments that touch are one time", aWord, []api.Call{from(0, 5, read(1)), from(5, 6, write(1))}, []int{1, 0}},
		{"moments that just do not", aWord, []api.Call{from(0, 5, read(1)), from(6, 7, write(1))}, nil},
		{"the last moments", aWord, []api.Call{from(math.MaxInt-1, math.MaxInt, read(1)), from(0, math.MaxInt-1, write(1))}, []int{1, 0}},
		{"the last moments, one behind another", aWord, []api.Call{from(0, math.MaxInt-1, read(1)), later(math.MaxInt, write(1))}, nil},
		{"all at one time: as they are numbered", aWord, atOnce(write(2), write(1), write(3)), []int{0, 1, 2}},
		{"what has not ended comes, where it is the smaller one", aWord, []api.Call{later(0, read(0)), from(0, 1, write(1))}, []int{0, 1}},
		{"and not, where it is not", aWord, []api.Call{from(0, 1, write(1)), later(0, read(0))}, []int{0}},
		{"and not, ahead of what had ended when it began", aWord, []api.Call{later(2, read(0)), from(0, 1, write(1)), from(3, 4, read(1))}, []int{1, 0, 2}},
		{"what has not ended and is needed twice", aWord, []api.Call{later(0, add(1, 0)), later(0, add(1, 0)), from(1, 2, read(2))}, []int{0, 1, 2}},
		{"what has not ended and may not come", aWord, []api.Call{later(0, write(7)), from(1, 2, read(0)), from(3, 4, read(0)), from(5, 9, write(1)), from(6, 7, read(1))}, []int{1, 2, 0, 3, 4}},
		{"a swap that has not ended, done", aWord, []api.Call{later(0, cas(0, 5, false)), from(1, 2, read(5))}, []int{0, 1}},
		{"a swap that has not ended, not done", aWord, []api.Call{later(0, cas(9, 5, false)), from(1, 2, read(0))}, []int{0, 1}},
		{"a swap that has not ended, and may not be done", aWord, []api.Call{from(1, 9, read(0)), later(0, cas(0, 5, false)), from(1, 2, read(0)), from(10, 11, write(3))}, []int{0, 2, 1, 3}},
		{"a put that has not ended, into a queue that is full", queue(1), []api.Call{later(0, put(1, false)), from(0, 1, put(2, true)), from(2, 3, take(2, true)), from(4, 5, take(0, false))}, []int{1, 0, 2, 3}},
		{"a put that has not ended, and is taken", queue(1), []api.Call{later(0, put(1, false)), from(2, 3, take(1, true))}, []int{0, 1}},
		{"a take that has not ended makes room", queue(1), []api.Call{later(0, take(0, false)), from(0, 1, put(1, true)), from(2, 3, put(2, true)), from(4, 5, take(2, true))}, []int{1, 0, 2, 3}},
		{"a take that has not ended, of a queue that is empty", queue(1), []api.Call{later(0, take(0, false)), from(0, 1, put(1, true)), from(2, 3, put(2, false))}, []int{0, 1, 2}},
		{"a pop that has not ended takes what lies above", stack(2), []api.Call{from(0, 1, push(1, true)), from(2, 3, push(2, true)), from(4, 5, pop(1, true)), later(0, pop(0, false))}, []int{0, 1, 3, 2}},
		{"a try that has not ended", places(1), []api.Call{later(0, try(false)), from(0, 1, try(false))}, []int{0, 1}},
		{"a leave that has not ended", places(1), []api.Call{from(0, 1, try(true)), from(2, 3, try(true)), later(0, leave(false))}, []int{0, 2, 1}},
		{"a leave that has not ended, too late", places(1), []api.Call{from(0, 1, try(true)), from(2, 3, try(true)), later(4, leave(false))}, nil},
		{"a stack, all at one time", stack(3), atOnce(pop(2, true), push(1, true), push(2, true), pop(1, true)), []int{1, 2, 0, 3}},
		{"a stack that is a queue", stack(3), inTurn(push(1, true), push(2, true), pop(1, true)), nil},
		{"refused, as it was full", queue(1), []api.Call{from(0, 9, put(1, false)), from(0, 9, put(2, true)), from(3, 4, take(2, true))}, []int{1, 0, 2}},
		{"refused, though it never was full", queue(2), []api.Call{from(0, 9, put(1, false)), from(0, 9, put(2, true)), from(3, 4, take(2, true))}, nil},
		{"values that nobody is told", queue(5), atOnce(put(5, true), put(6, true), put(7, true), take(7, true)), []int{2, 0, 1, 3}},
		{"one value twice", queue(5), []api.Call{from(0, 9, put(5, true)), from(0, 9, put(6, true)), from(0, 9, put(5, true)), from(10, 11, take(5, true)), from(12, 13, take(5, true)), from(14, 15, take(6, true))}, []int{0, 2, 1, 3, 4, 5}},
		{"a value twice, of which one is put ahead of another value, and one behind", queue(5), []api.Call{
			from(0, 1, put(9, true)), from(2, 5, put(1, true)), from(2, 9, put(2, true)), from(6, 20, take(9, true)),
			from(30, 31, take(2, true)), from(32, 33, take(1, true)), from(40, 41, put(1, true)), from(50, 51, take(1, true)),
		}, []int{0, 2, 1, 3, 4, 5, 6, 7}},
		{"a value twice on a stack, one of them popped by one that has not ended", stack(5), append(inTurn(push(4, true), push(3, true), push(5, true), push(3, true)),
			later(8, pop(0, false)), from(10, 11, pop(5, true)), from(12, 13, pop(3, true)), from(14, 15, pop(4, true)),
		), []int{0, 1, 2, 3, 4, 5, 6, 7}},
		{"the value 0", queue(5), atOnce(take(0, true), take(0, false), put(0, true)), []int{1, 2, 0}},
		{"a swap that was refused, and what it asked for", aWord, []api.Call{from(0, 1, write(3)), from(2, 9, write(6)), from(2, 9, write(5)), from(20, 21, cas(5, 1, false))}, []int{0, 2, 1, 3}},
		{"a swap that was refused, and what an add that has not ended makes", aWord, []api.Call{from(0, 1, write(3)), from(2, 9, write(9)), from(2, 9, write(1)), later(2, add(4, 0)), from(3, 12, read(5)), from(20, 21, cas(5, 7, false))}, []int{0, 2, 3, 4, 1, 5}},
		{"two objects, each in its order", oneEach, []api.Call{from(0, 9, of(1, take(4, true))), from(0, 9, read(2)), from(0, 9, of(1, put(4, true))), from(0, 9, write(2))}, []int{2, 0, 3, 1}},
		{"two objects: what one has ended the other begins behind", oneEach, []api.Call{from(5, 9, of(1, take(0, false))), from(0, 4, write(2)), from(0, 9, read(1))}, []int{2, 1, 0}},
		{"two objects, of which the second has no order", oneEach, inTurn(read(1), of(3, leave(true)), write(4)), nil},
	} {
		t.Run(x.name, func(t *testing.T) { orders(t, x.models, x.l, x.want) })
	}
}

func TestEach(t *testing.T) { // 17.3
	l := []api.Call{from(0, 1, of(2, read(1))), from(0, 1, read(0)), from(2, 3, of(1, write(3))), from(4, 5, of(1, read(3))), from(6, 7, of(4, try(true))), from(6, 7, of(4, try(true)))}
	models := []api.Model{{Kind: api.ModelWord}, {Kind: api.ModelWord}, {Kind: api.ModelWord}, {Kind: api.ModelQueue, Size: 1}, {Kind: api.ModelPlaces, Size: 1}}
	if got, why := lin.Each(models, l); !slices.Equal(got, []bool{true, true, false, true, false}) || why != api.OK {
		t.Error(got, why)
	}
	if got, why := lin.Each(nil, nil); len(got) != 0 || why != api.OK {
		t.Error("of nothing:", got, why)
	}
	most := slices.Repeat(aWord, api.MaxObjects)
	if got, why := lin.Each(most, inTurn(of(15, read(1)))); !slices.Equal(got, append(slices.Repeat([]bool{true}, 15), false)) || why != api.OK {
		t.Error("of many:", got, why)
	}
}

// few is a history of a few calls, of one or two objects, of which all orders can be gone through.
func few(r *rand.Rand) ([]api.Model, []api.Call) {
	models := randomModels(r, 2)
	return models, randomHistory(r, models, 1+r.Intn(8), 1+r.Intn(12), 1+r.Intn(6), float64(r.Intn(3))*0.2, float64(r.Intn(4))*0.15)
}

// several is a history of several calls of one object, of few values.
func several(r *rand.Rand) ([]api.Model, []api.Call) {
	models := randomModels(r, 1)
	if models[0].Kind != api.ModelWord {
		models[0].Size = 1 + r.Intn(7)
	}
	return models, randomHistory(r, models, 4+r.Intn(9), 1+r.Intn(40), 1+r.Intn(4), float64(r.Intn(5))*0.12, float64(r.Intn(6))*0.1)
}

func TestOrderAgainstAllOrders(t *testing.T) { // 17.3, 17.7
	r := rand.New(rand.NewSource(3))
	yes, no, opens := 0, 0, 0
	for n := range 200000 {
		models, l := few(r)
		if n%4 == 0 {
			models, l = several(r)
		}
		want, is := smallest(models, l)
		got, found, why := lin.Order(models, l)
		if !slices.Equal(got, want) || found != is || why != api.OK {
			t.Fatalf("%v\n%+v\n%v, %v, error %d, want %v, %v", models, l, got, found, why, want, is)
		}
		if !found {
			no++
			continue
		}
		yes++
		for _, i := range got {
			if l[i].End == under {
				opens++
			}
		}
	}
	if yes < 10000 || no < 10000 || opens < 1000 {
		t.Error("something came seldom:", yes, no, opens)
	}
}

// alone is the calls of one object.
func alone(l []api.Call, object int) []api.Call {
	return slices.DeleteFunc(slices.Clone(l), func(c api.Call) bool { return c.Object != object })
}

func TestLocal(t *testing.T) { // 17.3, 17.5
	r := rand.New(rand.NewSource(4))
	yes, no := 0, 0
	for range 60000 {
		models := randomModels(r, 4)
		l := randomHistory(r, models, 1+r.Intn(12), 1+r.Intn(10), 1+r.Intn(4), float64(r.Intn(3))*0.2, float64(r.Intn(4))*0.1)
		_, found, why := lin.Order(models, l)
		each, whyEach := lin.Each(models, l)
		if why != api.OK || whyEach != api.OK || len(each) != len(models) || found == slices.Contains(each, false) {
			t.Fatalf("%v\n%+v\n%v, error %d, each %v, error %d", models, l, found, why, each, whyEach)
		}
		for object, is := range each {
			if _, found, _ := lin.Order(models, alone(l, object)); found != is {
				t.Fatalf("%v\n%+v\nobject %d alone: %v, of all: %v", models, l, object, found, is)
			}
		}
		if found {
			yes++
		} else {
			no++
		}
	}
	if yes < 1000 || no < 1000 {
		t.Error("something came seldom:", yes, no)
	}
}

func TestOneBehindAnother(t *testing.T) { // 17.6
	r := rand.New(rand.NewSource(5))
	yes, no := 0, 0
	for range 20000 {
		models := randomModels(r, 4)
		l := inTurn(randomHistory(r, models, 1+r.Intn(api.MaxCalls), 0, 5, 0, 0)...)
		if r.Intn(2) == 0 { // as a run has them, or shuffled
			l = done(models, l)
		}
		is, why := lin.Run(models, l)
		got, found, whyOrder := lin.Order(models, l)
		if why != api.OK || whyOrder != api.OK || found != is {
			t.Fatalf("%v\n%+v\n%v, error %d, Run: %v, error %d", models, l, found, whyOrder, is, why)
		}
		if !found {
			no++
			continue
		}
		yes++
		for i, n := range got {
			if n != i || len(got) != len(l) {
				t.Fatalf("%v\n%+v\n%v", models, l, got)
			}
		}
	}
	if yes < 1000 || no < 1000 {
		t.Error("something came seldom:", yes, no)
	}
}

// done is calls with what they answer one behind another.
func done(models []api.Model, l []api.Call) []api.Call {
	now := things(models)
	for i, c := range l {
		now[c.Object], l[i].Got, l[i].Ok = now[c.Object].call(models[c.Object], c)
	}
	return l
}

// wider is a history in which some call begins sooner, or ends later, or has not ended.
func wider(r *rand.Rand, l []api.Call) []api.Call {
	l = slices.Clone(l)
	c := &l[r.Intn(len(l))]
	switch r.Intn(3) {
	case 0:
		c.Start = r.Intn(c.Start + 1)
	case 1:
		if c.End != under {
			c.End += r.Intn(20)
		}
	case 2:
		*c = open(*c)
	}
	return l
}

func TestWider(t *testing.T) { // 17.7, 17.8
	r := rand.New(rand.NewSource(6))
	for range 1500 {
		models := randomModels(r, 3)
		l := done(models, inTurn(randomHistory(r, models, 1+r.Intn(24), 0, 6, 0, 0)...))
		for range 30 {
			l = wider(r, l)
			order, found, why := lin.Order(models, l)
			if !found || why != api.OK || !isOrder(models, l, order) {
				t.Fatalf("%v\n%+v\n%v, %v, error %d", models, l, order, found, why)
			}
			var calls []api.Call
			for _, i := range order {
				calls = append(calls, l[i])
			}
			if is, why := lin.Run(models, calls); !is || why != api.OK {
				t.Fatalf("%v\n%+v\nRun by %v: %v, error %d", models, l, order, is, why)
			}
		}
	}
}

func TestNothingIsSharedOrChanged(t *testing.T) { // 17.4
	r := rand.New(rand.NewSource(7))
	for range 2000 {
		models, l := few(r)
		wasModels, was := slices.Clone(models), slices.Clone(l)
		one, found, _ := lin.Order(models, l)
		each, _ := lin.Each(models, l)
		lin.Run(models, l)
		lin.Check(models, l)
		if !slices.Equal(models, wasModels) || !slices.Equal(l, was) {
			t.Fatal("what was handed in is changed:", models, l)
		}
		two, foundAgain, _ := lin.Order(models, l)
		again, _ := lin.Each(models, l)
		if found != foundAgain || !slices.Equal(one, two) || !slices.Equal(each, again) {
			t.Fatal("answers are unlike:", one, two, each, again)
		}
		for i := range one[:cap(one)] {
			one[:cap(one)][i] = -7
		}
		for i := range each {
			each[i] = !each[i]
		}
		three, _, _ := lin.Order(models, l)
		if !slices.Equal(two, three) || len(again) > 0 && slices.Equal(each, again) {
			t.Fatal("answers are shared:", two, three, each, again)
		}
	}
}
