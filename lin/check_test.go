package lin_test

import (
	"math"
	"math/rand"
	"slices"
	"testing"

	"abacus/api"
	"abacus/lin"
)

// checks holds Check, and the errors of the others, against what is wanted.
func checks(t *testing.T, name string, models []api.Model, l []api.Call, want api.Errno, at int) {
	t.Helper()
	if why, i := lin.Check(models, l); why != want || i != at {
		t.Errorf("%s: Check: error %d at %d, want %d at %d", name, why, i, want, at)
	}
	if want == api.OK {
		return
	}
	if is, why := lin.Run(models, l); is || why != want {
		t.Errorf("%s: Run: %v, error %d", name, is, why)
	}
	if order, found, why := lin.Order(models, l); order != nil || found || why != want {
		t.Errorf("%s: Order: %v, %v, error %d", name, order, found, why)
	}
	if each, why := lin.Each(models, l); each != nil || why != want {
		t.Errorf("%s: Each: %v, error %d", name, each, why)
	}
}

func TestRightModels(t *testing.T) { // 17.1, and the words
	checks(t, "nothing", nil, nil, api.OK, 0)
	checks(t, "no calls", oneEach, nil, api.OK, 0)
	checks(t, "empty lists", []api.Model{}, []api.Call{}, api.OK, 0)
	for _, m := range []api.Model{
		{Kind: api.ModelWord}, {Kind: api.ModelWord, Word: 1}, {Kind: api.ModelWord, Word: math.MaxUint64},
		{Kind: api.ModelQueue, Size: 1}, {Kind: api.ModelQueue, Size: api.MaxRoom},
		{Kind: api.ModelStack, Size: 1}, {Kind: api.ModelStack, Size: api.MaxRoom},
		{Kind: api.ModelPlaces, Size: 1}, {Kind: api.ModelPlaces, Size: api.MaxRoom},
	} {
		checks(t, "a right model", []api.Model{m}, nil, api.OK, 0)
	}
	for _, m := range []api.Model{
		{}, {Word: 1}, {Size: 1}, {Kind: api.ModelCount}, {Kind: api.ModelCount, Size: 1}, {Kind: 255, Size: 1},
		{Kind: api.ModelWord, Size: 1}, {Kind: api.ModelWord, Size: -1}, {Kind: api.ModelWord, Size: 1, Word: 1},
		{Kind: api.ModelQueue}, {Kind: api.ModelQueue, Size: -1}, {Kind: api.ModelQueue, Size: api.MaxRoom + 1}, {Kind: api.ModelQueue, Size: 1, Word: 1},
		{Kind: api.ModelStack}, {Kind: api.ModelStack, Size: math.MinInt}, {Kind: api.ModelStack, Size: math.MaxInt}, {Kind: api.ModelStack, Size: 1, Word: math.MaxUint64},
		{Kind: api.ModelPlaces}, {Kind: api.ModelPlaces, Size: -1}, {Kind: api.ModelPlaces, Size: api.MaxRoom + 1}, {Kind: api.ModelPlaces, Size: 1, Word: 1},
	} {
		checks(t, "a wrong model", []api.Model{m}, nil, api.ErrModel, 0)
		checks(t, "a wrong model behind right ones", []api.Model{oneEach[0], oneEach[1], m, {}}, []api.Call{{}}, api.ErrModel, 2)
	}
}

func TestMany(t *testing.T) { // 17.1: the limits, and the order of errors
	most := slices.Repeat(aWord, api.MaxObjects)
	calls := inTurn(slices.Repeat([]api.Call{read(0)}, api.MaxCalls)...)
	one := inTurn(read(0))
	checks(t, "as many as may be", most, calls, api.OK, 0)
	checks(t, "one model more", append(slices.Clone(most), aWord[0]), one, api.ErrMany, 0)
	checks(t, "one call more", most, append(slices.Clone(calls), from(500, 501, read(0))), api.ErrMany, 0)
	checks(t, "one model more, that is wrong", append(slices.Clone(most), api.Model{}), one, api.ErrMany, 0)
	checks(t, "one call more, that is wrong", aWord, append(slices.Clone(calls), api.Call{}), api.ErrMany, 0)
	checks(t, "one call more, of wrong models", []api.Model{{}}, append(slices.Clone(calls), api.Call{}), api.ErrMany, 0)
	checks(t, "a wrong model, a wrong call", []api.Model{aWord[0], {}}, []api.Call{{}}, api.ErrModel, 1)
	checks(t, "calls of no model", nil, one, api.ErrHistory, 0)
	calls[63].Got, calls[63].Arg = 1, 1
	checks(t, "the last call is wrong", most, calls, api.ErrHistory, 63)
	calls[5].Object = -1
	checks(t, "two calls are wrong", most, calls, api.ErrHistory, 5)
}

// each kind with an answer as it may be, and the fields that it does not use.
var kinds = []struct {
	object int // of oneEach
	call   api.Call
	unused string
}{
	{0, read(7), "ano"}, {0, read(0), "ano"},
	{0, write(7), "ngo"},
	{0, add(7, 9), "no"},
	{0, cas(7, 9, true), "g"}, {0, cas(7, 9, false), "g"},
	{1, put(7, true), "ng"}, {1, put(7, false), "ng"},
	{1, take(7, true), "an"}, {1, take(0, true), "an"}, {1, take(0, false), "ang"},
	{2, push(7, true), "ng"}, {2, push(7, false), "ng"},
	{2, pop(7, true), "an"}, {2, pop(0, false), "ang"},
	{3, try(true), "ang"}, {3, try(false), "ang"},
	{3, leave(true), "ang"}, {3, leave(false), "ang"},
}

// spoilt is a call with a field that it does not use.
func spoilt(c api.Call, field rune) api.Call {
	switch field {
	case 'a':
		c.Arg = 1
	case 'n':
		c.New = 1
	case 'g':
		c.Got = 1
	case 'o':
		c.Ok = true
	}
	return c
}

func TestFieldsOfCalls(t *testing.T) { // 17.1, and the words
	for _, x := range kinds {
		c := of(x.object, from(3, 4, x.call))
		is := func(name string, c api.Call, want api.Errno) {
			t.Helper()
			checks(t, name, oneEach, []api.Call{c}, want, 0)
			if want != api.OK {
				checks(t, name+", behind a right one", oneEach, []api.Call{from(0, 1, read(0)), c}, want, 1)
			}
		}
		is("right", c, api.OK)
		is("not ended", open(c), api.OK)
		for _, field := range x.unused {
			is("a field that is not used", spoilt(c, field), api.ErrHistory)
		}
		for _, field := range "go" {
			is("an answer of one that has not ended", spoilt(open(c), field), api.ErrHistory)
		}
		for object := range oneEach {
			if object != x.object {
				is("a kind that the model has not", of(object, c), api.ErrHistory)
			}
		}
		for _, object := range []int{-1, 4, 5, math.MinInt, math.MaxInt} {
			is("no object", of(object, c), api.ErrHistory)
		}
	}
}

func TestMomentsOfCalls(t *testing.T) { // 17.1, and the words
	for _, x := range []struct {
		start, end int
		want       api.Errno
	}{
		{0, 1, api.OK}, {0, under, api.OK}, {5, 6, api.OK}, {math.MaxInt - 1, math.MaxInt, api.OK}, {math.MaxInt, under, api.OK}, {0, math.MaxInt, api.OK},
		{0, 0, api.ErrHistory}, {5, 5, api.ErrHistory}, {5, 4, api.ErrHistory}, {5, 0, api.ErrHistory}, {0, -2, api.ErrHistory}, {0, math.MinInt, api.ErrHistory},
		{-1, 0, api.ErrHistory}, {-1, 5, api.ErrHistory}, {-1, under, api.ErrHistory}, {-2, under, api.ErrHistory}, {math.MinInt, math.MaxInt, api.ErrHistory}, {math.MaxInt, math.MaxInt, api.ErrHistory},
	} {
		checks(t, "moments", aWord, []api.Call{from(x.start, x.end, read(0))}, x.want, 0)
		checks(t, "moments", places(1), []api.Call{from(x.start, x.end, try(false))}, x.want, 0)
	}
}

func TestKindsOfCalls(t *testing.T) { // 17.1, and the words
	for object := range oneEach {
		for _, kind := range []api.CallKind{api.CallNone, api.CallCount, api.CallCount + 1, 100, 255} {
			checks(t, "no kind", oneEach, []api.Call{of(object, from(0, 1, api.Call{Kind: kind}))}, api.ErrHistory, 0)
		}
	}
}

// isRight tells whether a call may be, field by field, as the words have it.
func isRight(models []api.Model, c api.Call) bool {
	if c.Object < 0 || c.Object >= len(models) || c.Start < 0 || c.End != -1 && c.End <= c.Start {
		return false
	}
	has := map[api.ModelKind][]api.CallKind{
		api.ModelWord:   {api.CallRead, api.CallWrite, api.CallAdd, api.CallCas},
		api.ModelQueue:  {api.CallPut, api.CallTake},
		api.ModelStack:  {api.CallPush, api.CallPop},
		api.ModelPlaces: {api.CallTry, api.CallLeave},
	}
	uses := map[api.CallKind]string{
		api.CallRead: "g", api.CallWrite: "a", api.CallAdd: "ag", api.CallCas: "ano", api.CallPut: "ao", api.CallPush: "ao",
		api.CallTake: "go", api.CallPop: "go", api.CallTry: "o", api.CallLeave: "o",
	}
	for field, set := range map[rune]bool{'a': c.Arg != 0, 'n': c.New != 0, 'g': c.Got != 0, 'o': c.Ok} {
		if set && !slices.Contains([]rune(uses[c.Kind]), field) {
			return false
		}
	}
	switch {
	case c.End == -1 && (c.Got != 0 || c.Ok):
		return false
	case (c.Kind == api.CallTake || c.Kind == api.CallPop) && !c.Ok && c.Got != 0:
		return false
	}
	return slices.Contains(has[models[c.Object].Kind], c.Kind)
}

func TestCheckOfAnyCalls(t *testing.T) { // 17.1, P1
	r := rand.New(rand.NewSource(1))
	few := func() uint64 { return uint64(max(0, r.Intn(7)-4)) }
	right := 0
	for range 200000 {
		l := make([]api.Call, r.Intn(4))
		for i := range l {
			l[i] = api.Call{Object: r.Intn(6) - 1, Kind: api.CallKind(r.Intn(13)), Start: r.Intn(5) - 1, End: r.Intn(7) - 2, Arg: few(), New: few(), Got: few(), Ok: r.Intn(3) == 0}
		}
		at := slices.IndexFunc(l, func(c api.Call) bool { return !isRight(oneEach, c) })
		if at >= 0 {
			checks(t, "any calls", oneEach, l, api.ErrHistory, at)
		} else {
			checks(t, "any calls", oneEach, l, api.OK, 0)
			right += len(l)
		}
		if t.Failed() {
			t.Fatalf("%+v", l)
		}
	}
	if right < 1000 {
		t.Error("few calls were right:", right)
	}
}
