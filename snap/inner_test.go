package snap

import (
	"math"
	"testing"

	"abacus/api"
)

// A register that was put nearly 2^32 times: none can be brought there by its calls within a test's time.
func TestNumberGoesRound(t *testing.T) { // 14.9, and the words
	g, _ := New(2)
	g.cells.Store(1, math.MaxUint64-1<<32)
	for _, want := range []api.Reg{{Number: math.MaxUint32, Value: 5}, {Number: 0, Value: math.MaxUint32}, {Number: 1, Value: 0}} {
		if got, why := g.Put(1, want.Value); got != want || why != api.OK {
			t.Errorf("Put(1, %d): %v, error %d", want.Value, got, why)
		}
		if got := g.All(); got[0] != (api.Reg{}) || got[1] != want {
			t.Errorf("behind Put(1, %d): %v", want.Value, got)
		}
	}
	g.cells.Store(1, math.MaxUint64)
	p, _ := g.Start(api.SnapOp{Kind: api.SnapPut, Reg: 1, Value: 7})
	p.Step()
	did, ended := p.Step()
	if want := (api.Did{Kind: api.ActCas, Cell: 1, Saw: math.MaxUint64, Put: 7, Ok: true}); did != want || !ended || p.Answer().Regs[0] != (api.Reg{Value: 7}) {
		t.Errorf("a stepped put: %v, %v, %v", did, ended, p.Answer())
	}
}

// What Free's scans are held against: other values than those of the lists, and numbers beyond them, are told.
func TestWatch(t *testing.T) { // 14.4
	for _, x := range []struct {
		name   string
		list   []uint32
		word   uint64
		scans  int
		rising bool
	}{
		{"nothing was put", []uint32{5, 7}, 0, 3, true},
		{"a value that nobody put", []uint32{5, 7}, 5, 3, false},
		{"the first value", []uint32{5, 7}, 1<<32 | 5, 3, true},
		{"the first value, looked at once", []uint32{5, 7}, 1<<32 | 5, 1, true},
		{"another value", []uint32{5, 7}, 1<<32 | 7, 1, false},
		{"the last value", []uint32{5, 7}, 2<<32 | 7, 3, true},
		{"the value behind it", []uint32{5, 7}, 2<<32 | 5, 3, false},
		{"a number beyond the list", []uint32{5, 7}, 3<<32 | 7, 3, false},
		{"a number, but no list", nil, 1 << 32, 3, false},
		{"nothing is looked at", nil, 1 << 32, 0, true},
	} {
		g, _ := New(2)
		g.cells.Store(1, x.word)
		if got := g.watch([][]uint32{nil, x.list}, x.scans); got != x.rising {
			t.Errorf("%s: %v", x.name, got)
		}
	}
}

func TestFollows(t *testing.T) { // 14.4, 14.7
	l := [][]uint32{{7, 7, 7}, {5, 6, 5}}
	earlier := []api.Reg{{Number: 1, Value: 7}, {Number: 2, Value: 6}}
	for _, x := range []struct {
		later []api.Reg
		want  bool
	}{
		{earlier, true},
		{[]api.Reg{{Number: 2, Value: 7}, {Number: 2, Value: 6}}, true},
		{[]api.Reg{{Number: 3, Value: 7}, {Number: 3, Value: 5}}, true},
		{[]api.Reg{{Number: 3, Value: 7}, {Number: 1, Value: 5}}, false},
		{[]api.Reg{{}, {Number: 2, Value: 6}}, false},
		{[]api.Reg{{Number: 1, Value: 7}, {Number: 3, Value: 6}}, false},
		{[]api.Reg{{Number: 1, Value: 6}, {Number: 2, Value: 6}}, false},
	} {
		if got := follows(x.later, earlier, l); got != x.want {
			t.Errorf("%v behind %v: %v", x.later, earlier, got)
		}
	}
}
