package lin_test

import (
	"math/rand"
	"slices"
	"strconv"
	"testing"

	"abacus/api"
	"abacus/lin"
)

const under = -1 // the End of a call that is under way as yet

var (
	aWord   = []api.Model{{Kind: api.ModelWord}}
	oneEach = []api.Model{{Kind: api.ModelWord, Word: 1}, {Kind: api.ModelQueue, Size: 2}, {Kind: api.ModelStack, Size: 2}, {Kind: api.ModelPlaces, Size: 2}}
)

func queue(size int) []api.Model {
	return []api.Model{{Kind: api.ModelQueue, Size: size}}
}

func stack(size int) []api.Model {
	return []api.Model{{Kind: api.ModelStack, Size: size}}
}

func places(size int) []api.Model {
	return []api.Model{{Kind: api.ModelPlaces, Size: size}}
}

// The calls of object 0 that answer what stands behind their names; from tells when, of tells of which object.

func read(got uint64) api.Call {
	return api.Call{Kind: api.CallRead, Got: got}
}

func write(x uint64) api.Call {
	return api.Call{Kind: api.CallWrite, Arg: x}
}

func add(x, got uint64) api.Call {
	return api.Call{Kind: api.CallAdd, Arg: x, Got: got}
}

func cas(old, x uint64, ok bool) api.Call {
	return api.Call{Kind: api.CallCas, Arg: old, New: x, Ok: ok}
}

func put(x uint64, ok bool) api.Call {
	return api.Call{Kind: api.CallPut, Arg: x, Ok: ok}
}

func take(got uint64, ok bool) api.Call {
	return api.Call{Kind: api.CallTake, Got: got, Ok: ok}
}

func push(x uint64, ok bool) api.Call {
	return api.Call{Kind: api.CallPush, Arg: x, Ok: ok}
}

func pop(got uint64, ok bool) api.Call {
	return api.Call{Kind: api.CallPop, Got: got, Ok: ok}
}

func try(ok bool) api.Call {
	return api.Call{Kind: api.CallTry, Ok: ok}
}

func leave(ok bool) api.Call {
	return api.Call{Kind: api.CallLeave, Ok: ok}
}

func from(start, end int, c api.Call) api.Call {
	c.Start, c.End = start, end
	return c
}

func of(object int, c api.Call) api.Call {
	c.Object = object
	return c
}

// open is a call that has not ended: what it answered is left out.
func open(c api.Call) api.Call {
	c.End, c.Got, c.Ok = under, 0, false
	return c
}

// inTurn is calls one behind another.
func inTurn(l ...api.Call) []api.Call {
	for i := range l {
		l[i].Start, l[i].End = 2*i, 2*i+1
	}
	return l
}

// atOnce is calls all at one time.
func atOnce(l ...api.Call) []api.Call {
	for i := range l {
		l[i].Start, l[i].End = 0, 100
	}
	return l
}

// thing is an object as the document has it, with all its values.
type thing struct {
	word uint64
	list []uint64
	held int
}

func things(models []api.Model) []thing {
	l := make([]thing, len(models))
	for i, m := range models {
		l[i].word = m.Word
	}
	return l
}

// call is the thing behind a call, and what the call answers.
func (o thing) call(m api.Model, c api.Call) (thing, uint64, bool) {
	n := len(o.list)
	switch {
	case c.Kind == api.CallRead:
		return o, o.word, false
	case c.Kind == api.CallWrite:
		return thing{word: c.Arg}, 0, false
	case c.Kind == api.CallAdd:
		return thing{word: o.word + c.Arg}, o.word + c.Arg, false
	case c.Kind == api.CallCas && o.word == c.Arg:
		return thing{word: c.New}, 0, true
	case (c.Kind == api.CallPut || c.Kind == api.CallPush) && n < m.Size:
		return thing{list: append(slices.Clone(o.list), c.Arg)}, 0, true
	case c.Kind == api.CallTake && n > 0:
		return thing{list: o.list[1:]}, o.list[0], true
	case c.Kind == api.CallPop && n > 0:
		return thing{list: o.list[:n-1]}, o.list[n-1], true
	case c.Kind == api.CallTry && o.held < m.Size:
		return thing{held: o.held + 1}, 0, true
	case c.Kind == api.CallLeave && o.held > 0:
		return thing{held: o.held - 1}, 0, true
	}
	return o, 0, false
}

// answers tells whether a call answers what it does.
func (o thing) answers(m api.Model, c api.Call) (thing, bool) {
	next, got, ok := o.call(m, c)
	return next, c.End == under || got == c.Got && ok == c.Ok
}

// runs tells whether calls, one behind another, answer what they do.
func runs(models []api.Model, l []api.Call) bool {
	now := things(models)
	for _, c := range l {
		next, right := now[c.Object].answers(models[c.Object], c)
		if !right {
			return false
		}
		now[c.Object] = next
	}
	return true
}

// smallest is the first order that is found when all are gone through, the smaller ones first, but for what was gone through already.
func smallest(models []api.Model, l []api.Call) ([]int, bool) {
	now, done, order := things(models), make([]bool, len(l)), []int{}
	vain := map[string]bool{}
	var find func() bool
	find = func() bool {
		missing := false
		for i, c := range l {
			missing = missing || !done[i] && c.End != under
		}
		if !missing {
			return true
		}
		key := keyOf(now, done)
		if vain[key] {
			return false
		}
		for i, c := range l {
			was := now[c.Object]
			next, right := was.answers(models[c.Object], c)
			if done[i] || !right || tooSoon(l, done, c) {
				continue
			}
			now[c.Object], done[i], order = next, true, append(order, i)
			if find() {
				return true
			}
			now[c.Object], done[i], order = was, false, order[:len(order)-1]
		}
		vain[key] = true
		return false
	}
	if !find() {
		return nil, false
	}
	return order, true
}

// keyOf tells things and what is done by a text.
func keyOf(now []thing, done []bool) string {
	var b []byte
	for _, is := range done {
		b = strconv.AppendBool(b, is)
	}
	for _, o := range now {
		for _, x := range append([]uint64{o.word, uint64(o.held)}, o.list...) {
			b = append(strconv.AppendUint(b, x, 36), ' ')
		}
		b = append(b, ';')
	}
	return string(b)
}

// tooSoon tells whether a call that is not done had ended when another one began.
func tooSoon(l []api.Call, done []bool, c api.Call) bool {
	for i, d := range l {
		if !done[i] && d.End != under && d.End < c.Start {
			return true
		}
	}
	return false
}

// isOrder tells whether numbers are an order of calls.
func isOrder(models []api.Model, l []api.Call, order []int) bool {
	done := make([]bool, len(l))
	var calls []api.Call
	for _, i := range order {
		if i < 0 || i >= len(l) || done[i] || tooSoon(l, done, l[i]) {
			return false
		}
		done[i] = true
		calls = append(calls, l[i])
	}
	for i, c := range l {
		if !done[i] && c.End != under {
			return false
		}
	}
	return runs(models, calls)
}

// orders holds Order against what is wanted: none is wanted by nil.
func orders(t *testing.T, models []api.Model, l []api.Call, want []int) {
	t.Helper()
	got, found, why := lin.Order(models, l)
	if !slices.Equal(got, want) || found != (want != nil) || why != api.OK {
		t.Errorf("%v: %v, %v, error %d, want %v", l, got, found, why, want)
	}
}

// randomModels are up to so many models, of all kinds, with little room.
func randomModels(r *rand.Rand, most int) []api.Model {
	var l []api.Model
	for range 1 + r.Intn(most) {
		if r.Intn(4) == 0 {
			l = append(l, api.Model{Kind: api.ModelWord, Word: uint64(r.Intn(3))})
		} else {
			l = append(l, api.Model{Kind: api.ModelQueue + api.ModelKind(r.Intn(3)), Size: 1 + r.Intn(3)})
		}
	}
	return l
}

// randomCall is a call of some object, with numbers below values; its answer is left out.
func randomCall(r *rand.Rand, models []api.Model, values int, now []thing) api.Call {
	object := r.Intn(len(models))
	x := uint64(r.Intn(values))
	var c api.Call
	switch models[object].Kind {
	case api.ModelWord:
		c = []api.Call{read(0), write(x), add(x, 0), add(-x, 0), cas(x, uint64(r.Intn(values)), false), cas(now[object].word, x, false)}[r.Intn(6)]
	case api.ModelQueue:
		c = []api.Call{put(x, false), take(0, false)}[r.Intn(2)]
	case api.ModelStack:
		c = []api.Call{push(x, false), pop(0, false)}[r.Intn(2)]
	default:
		c = []api.Call{try(false), leave(false)}[r.Intn(2)]
	}
	return of(object, c)
}

// wrong is a call with another answer, that may be right, too.
func wrong(r *rand.Rand, values int, c api.Call) api.Call {
	switch c.Kind {
	case api.CallWrite:
	case api.CallRead, api.CallAdd:
		c.Got = uint64(r.Intn(values))
	case api.CallTake, api.CallPop:
		c.Ok, c.Got = r.Intn(3) > 0, 0
		if c.Ok {
			c.Got = uint64(r.Intn(values))
		}
	default:
		c.Ok = !c.Ok
	}
	return c
}

// randomHistory is so many calls that were done one behind another, begun up to so much sooner, and ended up to so much later; some have not ended, of some the answers are wrong.
func randomHistory(r *rand.Rand, models []api.Model, n, wide, values int, opens, wrongs float64) []api.Call {
	now := things(models)
	var l []api.Call
	at := 0
	for range n {
		c := randomCall(r, models, values, now)
		at += 1 + r.Intn(2)
		c = from(max(0, at-r.Intn(wide+1)), at+1+r.Intn(wide+1), c)
		isOpen := r.Float64() < opens
		if !isOpen || r.Intn(2) == 0 {
			now[c.Object], c.Got, c.Ok = now[c.Object].call(models[c.Object], c)
		}
		switch {
		case isOpen:
			c = open(c)
		case r.Float64() < wrongs:
			c = wrong(r, values, c)
		}
		l = append(l, c)
	}
	for range r.Intn(n + 1) {
		i, j := r.Intn(n), r.Intn(n)
		l[i], l[j] = l[j], l[i]
	}
	return l
}
