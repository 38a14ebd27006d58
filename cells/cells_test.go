package cells_test

import (
	"math"
	"slices"
	"sync"
	"testing"

	"abacus/api"
	"abacus/cells"
)

// made is cells that have what start has.
func made(t *testing.T, start ...uint64) *cells.Cells {
	t.Helper()
	c, why := cells.New(len(start))
	if why != api.OK {
		t.Fatalf("New(%d): error %d", len(start), why)
	}
	for i, x := range start {
		c.Store(i, x)
	}
	return c
}

func TestNew(t *testing.T) { // 1.1
	for _, n := range []int{-1, api.MaxCells + 1, math.MinInt, math.MaxInt} {
		if c, why := cells.New(n); c != nil || why != api.ErrRange {
			t.Errorf("New(%d): error %d", n, why)
		}
	}
	for _, n := range []int{0, 1, 7, api.MaxCells} {
		c, why := cells.New(n)
		if c == nil || why != api.OK || c.Len() != n || !slices.Equal(c.All(), make([]uint64, n)) {
			t.Errorf("New(%d): error %d, %d cells", n, why, c.Len())
		}
	}
}

func TestAll(t *testing.T) { // 1.1
	c := made(t, 3, 0, math.MaxUint64)
	if got := c.All(); !slices.Equal(got, []uint64{3, 0, math.MaxUint64}) {
		t.Error("All:", got)
	}
}

func TestDoRefuses(t *testing.T) { // 1.1
	for _, x := range []struct {
		a    api.Act
		want api.Errno
	}{
		{api.Act{}, api.ErrAct},
		{api.Act{Kind: api.ActCount}, api.ErrAct},
		{api.Act{Kind: 255, Cell: 1}, api.ErrAct},
		{api.Act{Kind: api.ActLoad, New: 1}, api.ErrAct},
		{api.Act{Kind: api.ActLoad, Old: 1}, api.ErrAct},
		{api.Act{Kind: api.ActStore, Old: 1, New: 1}, api.ErrAct},
		{api.Act{Kind: api.ActAdd, Old: 1, New: 1}, api.ErrAct},
		{api.Act{Kind: api.ActSwap, Old: 1, New: 1}, api.ErrAct},
		{api.Act{Kind: api.ActLoad, Cell: 2, New: 1}, api.ErrAct}, // not right, ahead of no such cell
		{api.Act{Kind: api.ActNone, Cell: -1}, api.ErrAct},
		{api.Act{Kind: api.ActLoad, Cell: 2}, api.ErrRange},
		{api.Act{Kind: api.ActStore, Cell: -1}, api.ErrRange},
		{api.Act{Kind: api.ActAdd, Cell: math.MaxInt}, api.ErrRange},
		{api.Act{Kind: api.ActSwap, Cell: math.MinInt}, api.ErrRange},
		{api.Act{Kind: api.ActCas, Cell: 2, Old: 5, New: 6}, api.ErrRange},
	} {
		c := made(t, 5, 5)
		if d, why := c.Do(x.a); why != x.want || d != (api.Did{}) || !slices.Equal(c.All(), []uint64{5, 5}) {
			t.Errorf("Do(%v): %v, error %d, cells %v", x.a, d, why, c.All())
		}
	}
}

func TestDo(t *testing.T) { // 1.1
	const top = math.MaxUint64
	for _, x := range []struct {
		has  uint64
		a    api.Act
		want api.Did
	}{
		{5, api.Act{Kind: api.ActLoad}, api.Did{Saw: 5, Put: 5, Ok: true}},
		{5, api.Act{Kind: api.ActStore, New: 9}, api.Did{Saw: 5, Put: 9, Ok: true}},
		{5, api.Act{Kind: api.ActStore}, api.Did{Saw: 5, Put: 0, Ok: true}},
		{5, api.Act{Kind: api.ActAdd, New: 9}, api.Did{Saw: 5, Put: 14, Ok: true}},
		{top, api.Act{Kind: api.ActAdd, New: 3}, api.Did{Saw: top, Put: 2, Ok: true}},
		{3, api.Act{Kind: api.ActAdd, New: top}, api.Did{Saw: 3, Put: 2, Ok: true}},
		{5, api.Act{Kind: api.ActSwap, New: 9}, api.Did{Saw: 5, Put: 9, Ok: true}},
		{5, api.Act{Kind: api.ActCas, Old: 5, New: 9}, api.Did{Saw: 5, Put: 9, Ok: true}},
		{5, api.Act{Kind: api.ActCas, Old: 5, New: 5}, api.Did{Saw: 5, Put: 5, Ok: true}},
		{5, api.Act{Kind: api.ActCas, Old: 6, New: 9}, api.Did{Saw: 5, Put: 5, Ok: false}},
		{5, api.Act{Kind: api.ActCas, Old: 6, New: 5}, api.Did{Saw: 5, Put: 5, Ok: false}},
		{0, api.Act{Kind: api.ActCas}, api.Did{Ok: true}},
	} {
		for cell := range 2 {
			c := made(t, 77, 77)
			c.Store(cell, x.has)
			x.a.Cell, x.want.Cell, x.want.Kind = cell, cell, x.a.Kind
			d, why := c.Do(x.a)
			if why != api.OK || d != x.want || c.Load(cell) != x.want.Put || c.Load(1-cell) != 77 {
				t.Errorf("Do(%v) on %d: %v, error %d, cells %v", x.a, x.has, d, why, c.All())
			}
		}
	}
}

func TestPlainCalls(t *testing.T) { // 1.2, and example 1
	c := made(t, 0, 0)
	if got := c.Add(0, 5); got != 5 {
		t.Error("Add:", got)
	}
	if !c.Cas(0, 5, 7) || c.Load(0) != 7 {
		t.Error("Cas that finds its number:", c.All())
	}
	if c.Cas(0, 5, 8) || c.Load(0) != 7 {
		t.Error("Cas that does not:", c.All())
	}
	if got := c.Swap(0, 1); got != 7 || c.Load(0) != 1 {
		t.Error("Swap:", got, c.All())
	}
	if got := c.All(); !slices.Equal(got, []uint64{1, 0}) {
		t.Error("All:", got)
	}
	if a, b := c.Add(1, math.MaxUint64), c.Add(1, 2); a != math.MaxUint64 || b != 1 {
		t.Error("Add goes round at 2^64:", a, b)
	}
	c.Store(1, 42)
	if c.Load(1) != 42 || c.Load(0) != 1 {
		t.Error("Store:", c.All())
	}
}

func TestPlainCallsWithoutCell(t *testing.T) { // 1.2
	for _, i := range []int{-1, 2, math.MinInt, math.MaxInt} {
		c := made(t, 5, 6)
		c.Store(i, 9)
		if c.Load(i) != 0 || c.Add(i, 9) != 0 || c.Swap(i, 9) != 0 || c.Cas(i, 0, 9) || c.Cas(i, 5, 9) {
			t.Errorf("cell %d, which is not there, answers", i)
		}
		if !slices.Equal(c.All(), []uint64{5, 6}) {
			t.Errorf("cell %d, which is not there: %v", i, c.All())
		}
	}
}

func TestNilCells(t *testing.T) { // 1.6
	var c *cells.Cells
	c.Store(0, 1)
	if c.Len() != 0 || len(c.All()) != 0 || c.Load(0) != 0 || c.Add(0, 1) != 0 || c.Swap(0, 1) != 0 || c.Cas(0, 0, 1) {
		t.Error("nil Cells answer something")
	}
	for _, a := range []api.Act{{Kind: api.ActLoad}, {}, {Kind: api.ActCas, Cell: -1}} {
		if d, why := c.Do(a); d != (api.Did{}) || why != api.ErrNil {
			t.Errorf("Do(%v) of nil Cells: %v, error %d", a, d, why)
		}
	}
}

func TestCellsAnswerNewMemory(t *testing.T) { // 1.6
	c := made(t, 1, 2)
	first := c.All()
	first[0] = 99
	first = append(first, 7)
	if second := c.All(); !slices.Equal(second, []uint64{1, 2}) || first[0] != 99 {
		t.Error("All hands out what it keeps:", second)
	}
}

func TestTwoCellsAreApart(t *testing.T) { // P4
	a, b := made(t, 1), made(t, 1)
	a.Store(0, 5)
	if b.Load(0) != 1 {
		t.Error("what is put into one is in the other")
	}
}

// together runs a function by many goroutines and joins what they answer.
func together(workers int, f func(worker int) []api.Did) []api.Did {
	lists := make([][]api.Did, workers)
	var all sync.WaitGroup
	for n := range workers {
		all.Go(func() { lists[n] = f(n) })
	}
	all.Wait()
	return slices.Concat(lists...)
}

// Whatever goroutines do to a cell, each action is one moment: what one has put, one other at most sees as it puts something else, so that they make one chain.
func TestActionsAreMoments(t *testing.T) { // 1.1
	const workers, each = 8, 2000
	for _, kind := range []api.ActKind{api.ActStore, api.ActAdd, api.ActSwap, api.ActCas} {
		c := made(t, 0)
		list := together(workers, func(worker int) []api.Did {
			var did []api.Did
			for i := range each {
				a := api.Act{Kind: kind, New: uint64(worker*each + i + 1)}
				if kind == api.ActCas {
					a.Old = c.Load(0)
				}
				d, why := c.Do(a)
				if why != api.OK {
					t.Errorf("Do(%v): error %d", a, why)
				}
				if d.Ok != (kind != api.ActCas || d.Saw == a.Old) || !d.Ok && d.Put != d.Saw {
					t.Errorf("Do(%v): %v", a, d)
				}
				if d.Ok {
					did = append(did, d)
				}
			}
			return did
		})
		follows := map[uint64]uint64{}
		for _, d := range list {
			if _, two := follows[d.Saw]; two {
				t.Fatalf("kind %d: two actions saw %d", kind, d.Saw)
			}
			follows[d.Saw] = d.Put
		}
		at := uint64(0)
		for range list {
			next, ok := follows[at]
			if !ok {
				t.Fatalf("kind %d: nothing follows %d", kind, at)
			}
			at = next
		}
		if at != c.Load(0) {
			t.Errorf("kind %d: the chain ends with %d, the cell has %d", kind, at, c.Load(0))
		}
	}
}

func TestPlainCallsByMany(t *testing.T) { // 1.1, 1.2
	const workers, each = 8, 2000
	c := made(t, 0, 0, 0)
	together(workers, func(int) []api.Did {
		for range each {
			c.Add(0, 3)
			for done := false; !done; {
				old := c.Load(1)
				done = c.Cas(1, old, old+1)
			}
			// Of all ones that are swapped in, each but the last is taken out by one.
			c.Add(2, c.Swap(2, 0)+1)
		}
		return nil
	})
	if got := c.All(); !slices.Equal(got, []uint64{3 * workers * each, workers * each, workers * each}) {
		t.Error("something is lost:", got)
	}
}
