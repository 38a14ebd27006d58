package lin

import "slices"

// What is known of a situation.
const (
	inVain = iota + 1 // the calls that are left have no order: they were gone through in vain
	found             // they have one
)

// seeker makes a function that tells whether the calls that are left of an object have an order. It is helped by two others: if hopeful is false, they have none; if they have one, they have one behind one of choices.
func (h *history) seeker(hopeful func(x situation) bool, choices func(x situation) []situation) func(x situation) bool {
	known := map[situation]int{}
	var ends func(x situation) bool
	ends = func(x situation) bool {
		x = h.settle(x)
		if x.left&h.ended == 0 {
			return true
		}
		if known[x] == 0 {
			known[x] = inVain
			if hopeful(x) && slices.ContainsFunc(choices(x), ends) {
				known[x] = found
			}
		}
		return known[x] == found
	}
	return ends
}

func always(situation) bool {
	return true
}

// settle lets all calls come that can come now and change nothing: no other one can be harmed by that.
func (h *history) settle(x situation) situation {
	for {
		was := x.left
		for i := range h.free(x.left, h.ended&^h.alters).numbers() {
			if next, right := h.step(x, i); right {
				x = next
			}
		}
		if x.left == was {
			return x
		}
	}
}

// choices are the situations behind each call that can come now and change something. Of calls that do the same it is enough to look at the one that ends first: where another one comes now, and that one later, they can change places.
func (h *history) choices(x situation) []situation {
	var list []situation
	for _, i := range h.turns(x) {
		next, _ := h.step(x, i)
		list = append(list, next)
	}
	return list
}

func (h *history) turns(x situation) []int {
	var list []int
	for i := range h.free(x.left, h.alters).numbers() {
		next, right := h.step(x, i)
		if !right || !h.ended.has(i) && next.state == x.state {
			continue
		}
		n := slices.IndexFunc(list, func(j int) bool { return h.alike(i, j) })
		switch {
		case n < 0:
			list = append(list, i)
		case h.end(i) < h.end(list[n]):
			list[n] = i
		}
	}
	return list
}

// alike tells whether two calls that can come now do the same.
func (h *history) alike(i, j int) bool {
	a, b := h.calls[i], h.calls[j]
	return a.Kind == b.Kind && a.Arg == b.Arg && a.New == b.New
}
