package lin

import (
	"math"
	"slices"

	"abacus/api"
)

// history is calls of objects.
type history struct {
	models []api.Model
	calls  []api.Call // with codes in the place of what is put and taken
	ahead  []set      // of each call those that come ahead of it in whatever order
	ended  set
	alters set // those that may change something
}

// situation is what an object has, and which of its calls are still to come.
type situation struct {
	left set
	state
}

// state is what an object has: a word, or how many places are held; the codes in a queue or on a stack, the oldest first.
type state struct {
	word uint64
	list string
}

func newHistory(models []api.Model, l []api.Call) *history {
	h := &history{models: models, calls: coded(l), ahead: make([]set, len(l))}
	for i, c := range l {
		if c.End != running {
			h.ended |= only(i)
		}
		if alters(c) {
			h.alters |= only(i)
		}
		for j, d := range l {
			if d.End != running && d.End < c.Start {
				h.ahead[i] |= only(j)
			}
		}
	}
	return h
}

// told is a value that somebody took from an object.
type told struct {
	object int
	value  uint64
}

// coded is calls with codes in the place of what is put and taken: 0 for all values that nobody was told, as it does not matter which they are.
func coded(l []api.Call) []api.Call {
	codes := map[told]uint64{}
	l = slices.Clone(l)
	for i, c := range l {
		if (c.Kind == api.CallTake || c.Kind == api.CallPop) && c.Ok {
			value := told{c.Object, c.Got}
			if codes[value] == 0 {
				codes[value] = uint64(len(codes)) + 1
			}
			l[i].Got = codes[value]
		}
	}
	for i, c := range l {
		if puts(c) {
			l[i].Arg = codes[told{c.Object, c.Arg}]
		}
	}
	return l
}

func puts(c api.Call) bool {
	return c.Kind == api.CallPut || c.Kind == api.CallPush
}

// alters tells whether a call may change something, if it answers what it does.
func alters(c api.Call) bool {
	switch c.Kind {
	case api.CallRead:
		return false
	case api.CallWrite:
		return true
	case api.CallAdd:
		return c.Arg != 0
	}
	return (c.Ok || c.End == running) && (c.Kind != api.CallCas || c.Arg != c.New)
}

// first is an object's situation ahead of all its calls; those that have not ended, and change nothing, are left out.
func (h *history) first(object int) situation {
	var own set
	for i, c := range h.calls {
		if c.Object == object {
			own |= only(i)
		}
	}
	return situation{own & (h.ended | h.alters), state{word: h.models[object].Word}}
}

// free is those of some calls that may come next, as none that is left must come ahead of them.
func (h *history) free(left, some set) set {
	var s set
	for i := range (left & some).numbers() {
		if h.ahead[i]&left == 0 {
			s |= only(i)
		}
	}
	return s
}

// step is the situation behind a call: false: the call does not answer what it does.
func (h *history) step(x situation, call int) (situation, bool) {
	c := h.calls[call]
	next, got, ok := does(h.models[c.Object].Size, x.state, c)
	return situation{x.left &^ only(call), next}, c.End == running || got == c.Got && ok == c.Ok
}

// end is when a call ended: one that has not, behind all others.
func (h *history) end(call int) int {
	if h.ended.has(call) {
		return h.calls[call].End
	}
	return math.MaxInt
}

// does is what an object of a size has behind a call, and what the call answers.
func does(size int, s state, c api.Call) (state, uint64, bool) {
	switch c.Kind {
	case api.CallRead:
		return s, s.word, false
	case api.CallWrite:
		return state{word: c.Arg}, 0, false
	case api.CallAdd:
		return state{word: s.word + c.Arg}, s.word + c.Arg, false
	case api.CallCas:
		if s.word == c.Arg {
			return state{word: c.New}, 0, true
		}
	case api.CallPut, api.CallPush:
		if len(s.list) < size {
			return state{list: s.list + string([]byte{byte(c.Arg)})}, 0, true
		}
	case api.CallTake:
		if len(s.list) > 0 {
			return state{list: s.list[1:]}, uint64(s.list[0]), true
		}
	case api.CallPop:
		if top := len(s.list) - 1; top >= 0 {
			return state{list: s.list[:top]}, uint64(s.list[top]), true
		}
	case api.CallTry:
		if s.word < uint64(size) {
			return state{word: s.word + 1}, 0, true
		}
	case api.CallLeave:
		if s.word > 0 {
			return state{word: s.word - 1}, 0, true
		}
	}
	return s, 0, false
}
