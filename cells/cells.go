// Package cells: atomic words and their actions; small programs over them, under any schedule: see ../../shared/DOC.md and doc/01-cells.md.
package cells

import (
	"sync/atomic"

	"abacus/api"
)

// Cells are words that many may use at one time.
type Cells struct {
	words []atomic.Uint64
}

// New has so many words, all 0.
func New(n int) (*Cells, api.Errno) {
	if n < 0 || n > api.MaxCells {
		return nil, api.ErrRange
	}
	return &Cells{words: make([]atomic.Uint64, n)}, api.OK
}

// Len is how many words there are.
func (c *Cells) Len() int {
	if c == nil {
		return 0
	}
	return len(c.words)
}

// All is what the words have, looked at one after another: not what they had at one moment.
func (c *Cells) All() []uint64 {
	if c == nil {
		return nil
	}
	all := make([]uint64, len(c.words))
	for i := range c.words {
		all[i] = c.words[i].Load()
	}
	return all
}

// Do does one action.
func (c *Cells) Do(a api.Act) (api.Did, api.Errno) {
	switch {
	case c == nil:
		return api.Did{}, api.ErrNil
	case !rightAct(a):
		return api.Did{}, api.ErrAct
	case !c.has(a.Cell):
		return api.Did{}, api.ErrRange
	}
	return c.act(a), api.OK
}

// Load looks at a cell.
func (c *Cells) Load(i int) uint64 {
	if !c.has(i) {
		return 0
	}
	return c.words[i].Load()
}

// Store puts x into a cell.
func (c *Cells) Store(i int, x uint64) {
	if c.has(i) {
		c.words[i].Store(x)
	}
}

// Add adds x to a cell, and answers what it has then.
func (c *Cells) Add(i int, x uint64) uint64 {
	if !c.has(i) {
		return 0
	}
	return c.words[i].Add(x)
}

// Swap puts x into a cell, and answers what was there.
func (c *Cells) Swap(i int, x uint64) uint64 {
	if !c.has(i) {
		return 0
	}
	return c.words[i].Swap(x)
}

// Cas puts x into a cell that has old, and tells whether it did.
func (c *Cells) Cas(i int, old, x uint64) bool {
	return c.has(i) && c.words[i].CompareAndSwap(old, x)
}

func (c *Cells) has(i int) bool {
	return i >= 0 && i < c.Len()
}

// from is cells that have what start has.
func from(start []uint64) *Cells {
	c := &Cells{words: make([]atomic.Uint64, len(start))}
	for i, x := range start {
		c.words[i].Store(x)
	}
	return c
}

// act does an action that is right, on a cell that there is.
func (c *Cells) act(a api.Act) api.Did {
	w := &c.words[a.Cell]
	var saw uint64
	switch a.Kind {
	case api.ActLoad:
		saw = w.Load()
	case api.ActStore, api.ActSwap:
		// A store tells what was there, too: a load ahead of it would be another moment.
		saw = w.Swap(a.New)
	case api.ActAdd:
		saw = w.Add(a.New) - a.New
	case api.ActCas:
		saw = cas(w, a.Old, a.New)
	}
	return outcome(a, saw)
}

// cas puts x where old is, and answers what was there. A swap that fails does not tell what it found: so the word is looked at first, and swapped only if old is there; should it be gone by then, it is looked at again.
func cas(w *atomic.Uint64, old, x uint64) uint64 {
	for {
		if saw := w.Load(); saw != old {
			return saw
		}
		if w.CompareAndSwap(old, x) {
			return old
		}
	}
}

// outcome is what an action does with a cell in which it sees something.
func outcome(a api.Act, saw uint64) api.Did {
	did := api.Did{Kind: a.Kind, Cell: a.Cell, Saw: saw, Put: saw, Ok: true}
	switch a.Kind {
	case api.ActStore, api.ActSwap:
		did.Put = a.New
	case api.ActAdd:
		did.Put = saw + a.New
	case api.ActCas:
		did.Ok = saw == a.Old
		if did.Ok {
			did.Put = a.New
		}
	}
	return did
}

func rightAct(a api.Act) bool {
	switch a.Kind {
	case api.ActLoad:
		return a.Old == 0 && a.New == 0
	case api.ActStore, api.ActAdd, api.ActSwap:
		return a.Old == 0
	case api.ActCas:
		return true
	}
	return false
}
