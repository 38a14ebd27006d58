package lin

import "abacus/api"

const running = -1 // the End of a call that has not ended

// uses tells which model has a call's kind, and which fields the kind has.
type uses struct {
	model             api.ModelKind
	arg, new, got, ok bool
}

var used = [api.CallCount]uses{
	api.CallRead:  {model: api.ModelWord, got: true},
	api.CallWrite: {model: api.ModelWord, arg: true},
	api.CallAdd:   {model: api.ModelWord, arg: true, got: true},
	api.CallCas:   {model: api.ModelWord, arg: true, new: true, ok: true},
	api.CallPut:   {model: api.ModelQueue, arg: true, ok: true},
	api.CallTake:  {model: api.ModelQueue, got: true, ok: true},
	api.CallPush:  {model: api.ModelStack, arg: true, ok: true},
	api.CallPop:   {model: api.ModelStack, got: true, ok: true},
	api.CallTry:   {model: api.ModelPlaces, ok: true},
	api.CallLeave: {model: api.ModelPlaces, ok: true},
}

// Check tells whether objects and calls may be; the number of the first one at fault.
func Check(models []api.Model, l []api.Call) (api.Errno, int) {
	if len(models) > api.MaxObjects || len(l) > api.MaxCalls {
		return api.ErrMany, 0
	}
	for i, m := range models {
		if !rightModel(m) {
			return api.ErrModel, i
		}
	}
	for i, c := range l {
		if !rightCall(models, c) {
			return api.ErrHistory, i
		}
	}
	return api.OK, 0
}

func rightModel(m api.Model) bool {
	switch m.Kind {
	case api.ModelWord:
		return m.Size == 0
	case api.ModelQueue, api.ModelStack, api.ModelPlaces:
		return m.Size >= 1 && m.Size <= api.MaxRoom && m.Word == 0
	}
	return false
}

// rightCall tells whether a call of one of these models, which are right, is right.
func rightCall(models []api.Model, c api.Call) bool {
	if c.Object < 0 || c.Object >= len(models) || c.Kind >= api.CallCount {
		return false
	}
	u := used[c.Kind]
	if u.model != models[c.Object].Kind || c.Start < 0 {
		return false
	}
	if c.End == running {
		u.got, u.ok = false, false
	} else if c.End <= c.Start {
		return false
	}
	if u.ok && !c.Ok {
		u.got = false // nothing was taken
	}
	return (u.arg || c.Arg == 0) && (u.new || c.New == 0) && (u.got || c.Got == 0) && (u.ok || !c.Ok)
}
