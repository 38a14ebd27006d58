package cells_test

import (
	"math"
	"math/rand"
	"reflect"
	"slices"
	"testing"

	"abacus/api"
	"abacus/cells"
)

type program = []api.Ins

// loads adds one to the cell 0 by a load and a store; adds, by an add; tries, by a compare-and-swap till it is done.
func loads() program {
	return program{{Kind: api.InsLoad}, {Kind: api.InsSet, A: 1, Value: 1}, {Kind: api.InsSum, C: 1}, {Kind: api.InsStore}}
}

func adds() program {
	return program{{Kind: api.InsSet, Value: 1}, {Kind: api.InsAdd, B: 1}}
}

func tries() program {
	return program{
		{Kind: api.InsSet, A: 1, Value: 1},
		{Kind: api.InsLoad},
		{Kind: api.InsSum, A: 2, B: 0, C: 1},
		{Kind: api.InsCas, A: 0, B: 2, C: 3},
		{Kind: api.InsSame, A: 4, B: 3, C: 5}, // the register 5 is 0
		{Kind: api.InsJump, A: 4, C: 1},
	}
}

// sets is a program of so many instructions that do nothing to cells.
func sets(n int) program {
	return slices.Repeat(program{{Kind: api.InsSet, Value: 1}}, n)
}

func TestCheckLimits(t *testing.T) { // 1.3
	bad := program{{Kind: api.InsNone}}
	for _, x := range []struct {
		name          string
		cells         int
		l             []program
		want          api.Errno
		worker, place int
	}{
		{"no cells, no programs", 0, nil, api.OK, 0, 0},
		{"all cells", api.MaxCells, []program{adds()}, api.OK, 0, 0},
		{"cells below 0", -1, []program{bad}, api.ErrRange, 0, 0},
		{"too many cells", api.MaxCells + 1, slices.Repeat([]program{bad}, api.MaxWorkers+1), api.ErrRange, 0, 0},
		{"all workers", 1, slices.Repeat([]program{adds()}, api.MaxWorkers), api.OK, 0, 0},
		{"too many workers", 1, slices.Repeat([]program{bad}, api.MaxWorkers+1), api.ErrMany, 0, 0},
		{"all instructions", 1, []program{sets(api.MaxIns)}, api.OK, 0, 0},
		{"too many instructions", 1, []program{nil, sets(api.MaxIns + 1)}, api.ErrMany, 1, api.MaxIns},
		{"too many, one of them wrong", 1, []program{append(program{{}}, sets(api.MaxIns)...)}, api.ErrMany, 0, api.MaxIns},
		{"wrong ahead of too many", 1, []program{adds(), bad, sets(api.MaxIns + 1)}, api.ErrProgram, 1, 0},
		{"too many ahead of wrong", 1, []program{sets(api.MaxIns + 1), bad}, api.ErrMany, 0, api.MaxIns},
		{"the first wrong one", 1, []program{adds(), append(adds(), api.Ins{}, api.Ins{})}, api.ErrProgram, 1, 2},
		{"no such cell without cells", 0, []program{adds()}, api.ErrProgram, 0, 1},
	} {
		if why, worker, place := cells.Check(x.cells, x.l); why != x.want || worker != x.worker || place != x.place {
			t.Errorf("%s: error %d, %d, %d", x.name, why, worker, place)
		}
	}
}

func TestCheckInstructions(t *testing.T) { // 1.3
	right := []api.Ins{
		{Kind: api.InsSet, A: 7, Value: math.MaxUint64},
		{Kind: api.InsSum, A: 7, B: 7, C: 7},
		{Kind: api.InsLess, A: 7, B: 7, C: 7},
		{Kind: api.InsSame, A: 7, B: 7, C: 7},
		{Kind: api.InsJump, A: 7},
		{Kind: api.InsJump, C: 1}, // behind the last one
		{Kind: api.InsLoad, A: 7, Cell: 2},
		{Kind: api.InsStore, A: 7, Cell: 2},
		{Kind: api.InsAdd, A: 7, B: 7, Cell: 2},
		{Kind: api.InsSwap, A: 7, B: 7, Cell: 2},
		{Kind: api.InsCas, A: 7, B: 7, C: 7, Cell: 2},
	}
	for _, i := range right {
		if why, worker, place := cells.Check(3, []program{{i}}); why != api.OK || worker != 0 || place != 0 {
			t.Errorf("%v: error %d, %d, %d", i, why, worker, place)
		}
	}
	wrong := []api.Ins{
		{}, {Kind: api.InsCount}, {Kind: 255},
		{Kind: api.InsSet, B: 1}, {Kind: api.InsSet, C: 1}, {Kind: api.InsSet, Cell: 1},
		{Kind: api.InsJump, B: 1}, {Kind: api.InsJump, Cell: 1}, {Kind: api.InsJump, C: 2}, {Kind: api.InsJump, C: -1},
		{Kind: api.InsLoad, B: 1}, {Kind: api.InsLoad, C: 1},
		{Kind: api.InsStore, B: 1}, {Kind: api.InsStore, C: 1},
		{Kind: api.InsAdd, C: 1}, {Kind: api.InsSwap, C: 1},
	}
	for _, i := range right {
		for _, register := range []int{-1, api.MaxRegs, math.MaxInt, math.MinInt} {
			a, b, c := i, i, i
			a.A, b.B, c.C = register, register, register
			wrong = append(wrong, a, b, c)
		}
		if i.Kind != api.InsSet {
			i.Value = 1
			wrong = append(wrong, i)
			i.Value = 0
		}
		for _, cell := range []int{-1, 3} {
			i.Cell = cell
			wrong = append(wrong, i)
		}
	}
	for _, i := range wrong {
		if why, worker, place := cells.Check(3, []program{nil, {{Kind: api.InsSet}, i}}); i.Kind == api.InsJump && i.C == 2 {
			continue // the program is longer here
		} else if why != api.ErrProgram || worker != 1 || place != 1 {
			t.Errorf("%v: error %d, %d, %d", i, why, worker, place)
		}
		if why, _, place := cells.Check(3, []program{{i}}); why != api.ErrProgram || place != 0 {
			t.Errorf("%v: error %d, at %d", i, why, place)
		}
	}
	if why, _, _ := cells.Check(3, []program{{{Kind: api.InsJump, C: 2}}}); why != api.ErrProgram {
		t.Error("a jump beyond the end: error", why)
	}
	if why, _, _ := cells.Check(3, []program{{{Kind: api.InsJump, C: 2}, {Kind: api.InsSet}}}); why != api.OK {
		t.Error("a jump behind the end: error", why)
	}
}

func TestRunInstructions(t *testing.T) { // 1.4
	const top = math.MaxUint64
	set := func(register int, x uint64) api.Ins { return api.Ins{Kind: api.InsSet, A: register, Value: x} }
	for _, x := range []struct {
		p    program
		regs []uint64
		cell uint64
	}{
		{program{set(3, top)}, []uint64{0, 0, 0, top}, 5},
		{program{set(1, top), set(2, 3), {Kind: api.InsSum, A: 0, B: 1, C: 2}}, []uint64{2, top, 3}, 5},
		{program{set(1, 2), set(2, 3), {Kind: api.InsLess, A: 0, B: 1, C: 2}}, []uint64{1, 2, 3}, 5},
		{program{set(1, 3), set(2, 3), {Kind: api.InsLess, A: 1, B: 1, C: 2}}, []uint64{0, 0, 3}, 5},
		{program{set(1, top), {Kind: api.InsLess, A: 1, B: 1, C: 0}}, []uint64{0, 0}, 5},
		{program{set(1, 3), set(2, 3), {Kind: api.InsSame, A: 2, B: 1, C: 2}}, []uint64{0, 3, 1}, 5},
		{program{set(1, 3), {Kind: api.InsSame, A: 1, B: 1, C: 2}}, []uint64{0, 0}, 5},
		{program{set(0, 1), {Kind: api.InsJump, A: 0, C: 3}, set(1, 9), set(2, 9)}, []uint64{1, 0, 9}, 5},
		{program{set(0, 0), {Kind: api.InsJump, A: 0, C: 3}, set(1, 9), set(2, 9)}, []uint64{0, 9, 9}, 5},
		{program{set(0, top), {Kind: api.InsJump, A: 0, C: 3}, set(1, 9)}, []uint64{top}, 5},
		{program{{Kind: api.InsLoad, A: 6}}, []uint64{0, 0, 0, 0, 0, 0, 5}, 5},
		{program{set(1, 8), {Kind: api.InsStore, A: 1}}, []uint64{0, 8}, 8},
		{program{set(1, 8), {Kind: api.InsAdd, A: 1, B: 2}}, []uint64{0, 8, 13}, 13},
		{program{set(1, top), {Kind: api.InsAdd, A: 1, B: 1}}, []uint64{0, 4}, 4},
		{program{set(1, 8), {Kind: api.InsSwap, A: 1, B: 2}}, []uint64{0, 8, 5}, 8},
		{program{set(1, 8), {Kind: api.InsSwap, A: 1, B: 1}}, []uint64{0, 5}, 8},
		{program{set(1, 5), set(2, 6), set(3, 9), {Kind: api.InsCas, A: 1, B: 2, C: 3}}, []uint64{0, 5, 6, 1}, 6},
		{program{set(1, 4), set(2, 6), set(3, 9), {Kind: api.InsCas, A: 1, B: 2, C: 3}}, []uint64{0, 4, 6, 0}, 5},
		{program{set(1, 5), set(2, 6), {Kind: api.InsCas, A: 1, B: 2, C: 2}}, []uint64{0, 5, 1}, 6},
		{program{set(1, 5), set(2, 6), {Kind: api.InsCas, A: 1, B: 2, C: 1}}, []uint64{0, 1, 6}, 6},
	} {
		f, why := cells.Run([]uint64{5}, []program{x.p}, make([]int, 10))
		var regs [api.MaxRegs]uint64
		copy(regs[:], x.regs)
		if why != api.OK || !f.Ended[0] || f.Regs[0] != regs || f.Cells[0] != x.cell {
			t.Errorf("%v: %v, error %d", x.p, f, why)
		}
	}
}

func TestRun(t *testing.T) { // 1.4, and example 2
	two := []program{loads(), loads()}
	f, why := cells.Run([]uint64{0}, two, []int{0, 1, 0, 1, 0, 1, 0, 1})
	want := api.Final{
		Cells: []uint64{1},
		Regs:  [][api.MaxRegs]uint64{{1, 1}, {1, 1}},
		Ended: []bool{true, true},
		Trace: []api.Event{
			{Worker: 0, Did: api.Did{Kind: api.ActLoad, Ok: true}},
			{Worker: 1, Did: api.Did{Kind: api.ActLoad, Ok: true}},
			{Worker: 0, Did: api.Did{Kind: api.ActStore, Put: 1, Ok: true}},
			{Worker: 1, Did: api.Did{Kind: api.ActStore, Saw: 1, Put: 1, Ok: true}},
		},
	}
	if why != api.OK || !reflect.DeepEqual(f, want) {
		t.Errorf("in turns: %v, error %d", f, why)
	}
	if f, why := cells.Run([]uint64{0}, two, []int{0, 0, 0, 0, 1, 1, 1, 1}); why != api.OK || f.Cells[0] != 2 {
		t.Errorf("one behind the other: %v, error %d", f, why)
	}
	f, why = cells.Run([]uint64{7}, two, []int{1, 0, 1})
	if why != api.OK || f.Cells[0] != 7 || f.Regs[0] != [api.MaxRegs]uint64{7} || f.Regs[1] != [api.MaxRegs]uint64{7, 1} || slices.Contains(f.Ended, true) || len(f.Trace) != 2 || f.Trace[0].Worker != 1 {
		t.Errorf("part of the way: %v, error %d", f, why)
	}
}

func TestRunSchedules(t *testing.T) { // 1.4
	l := []program{nil, adds()}
	f, why := cells.Run([]uint64{0, 9}, l, []int{-1, 2, 1, 0, math.MaxInt, 1, 1, 1, math.MinInt})
	if why != api.OK || !slices.Equal(f.Cells, []uint64{1, 9}) || !slices.Equal(f.Ended, []bool{true, true}) || len(f.Trace) != 1 || f.Regs[0] != [api.MaxRegs]uint64{} {
		t.Errorf("numbers of nobody, and of who has ended: %v, error %d", f, why)
	}
	f, why = cells.Run([]uint64{4}, l, nil)
	if why != api.OK || !slices.Equal(f.Cells, []uint64{4}) || !slices.Equal(f.Ended, []bool{true, false}) || len(f.Trace) != 0 || len(f.Regs) != 2 {
		t.Errorf("no schedule: %v, error %d", f, why)
	}
	f, why = cells.Run(nil, nil, []int{0})
	if why != api.OK || len(f.Cells)+len(f.Regs)+len(f.Ended)+len(f.Trace) != 0 {
		t.Errorf("nobody: %v, error %d", f, why)
	}
	f, why = cells.Run([]uint64{0}, []program{{{Kind: api.InsSet, Value: 1}, {Kind: api.InsAdd, B: 1}, {Kind: api.InsJump}}}, make([]int, api.MaxSteps))
	if why != api.OK || f.Cells[0] != api.MaxSteps/3 || f.Ended[0] || len(f.Trace) != api.MaxSteps/3 {
		t.Errorf("as many steps as may be: %v, error %d", f.Cells, why)
	}
}

func TestRunRefuses(t *testing.T) { // 1.4
	long := make([]int, api.MaxSteps+1)
	for _, x := range []struct {
		name     string
		start    []uint64
		l        []program
		schedule []int
		want     api.Errno
	}{
		{"too many cells", make([]uint64, api.MaxCells+1), slices.Repeat([]program{{{}}}, api.MaxWorkers+1), long, api.ErrRange},
		{"too many workers", nil, slices.Repeat([]program{{{}}}, api.MaxWorkers+1), long, api.ErrMany},
		{"a wrong instruction", nil, []program{adds()}, long, api.ErrProgram},
		{"too many instructions", nil, []program{sets(api.MaxIns + 1)}, nil, api.ErrMany},
		{"too many steps", []uint64{0}, []program{adds()}, long, api.ErrMany},
	} {
		if f, why := cells.Run(x.start, x.l, x.schedule); why != x.want || !reflect.DeepEqual(f, api.Final{}) {
			t.Errorf("%s: %v, error %d", x.name, f, why)
		}
	}
}

func TestEndsAndFitsRefuse(t *testing.T) { // 1.5
	round := program{{Kind: api.InsSet, Value: 1}, {Kind: api.InsJump, C: 1}}
	for _, x := range []struct {
		name       string
		start      []uint64
		l          []program
		most       int
		ends, fits api.Errno
	}{
		{"too many cells", make([]uint64, api.MaxCells+1), []program{{{}}}, 0, api.ErrRange, api.ErrRange},
		{"too many workers", nil, slices.Repeat([]program{{{}}}, api.MaxWorkers+1), 0, api.ErrMany, api.ErrMany},
		{"too many instructions", nil, []program{sets(api.MaxIns + 1)}, 0, api.ErrMany, api.ErrMany},
		{"a wrong instruction ahead of the number", nil, []program{adds()}, 0, api.ErrProgram, api.ErrProgram},
		{"a number below 1, ahead of a jump back", nil, []program{round}, 0, api.ErrRange, api.ErrRange},
		{"a number below 0", nil, nil, -1, api.ErrRange, api.ErrRange},
		{"a number above all", nil, []program{round}, api.MaxSteps + 1, api.ErrRange, api.ErrRange},
		{"a jump back, ahead of too many", []uint64{0}, []program{loads(), round}, 1, api.ErrMany, api.ErrBack},
		{"a jump back that is never come to", nil, []program{{{Kind: api.InsJump, A: 1}}}, 2, api.OK, api.ErrBack},
		{"too many situations", []uint64{0}, []program{loads()}, 4, api.ErrMany, api.ErrMany},
		{"as many as may be", []uint64{0}, []program{loads()}, 5, api.OK, api.OK},
		{"one situation", []uint64{3}, []program{nil}, 1, api.OK, api.OK},
		{"the greatest number", []uint64{3}, nil, api.MaxSteps, api.OK, api.OK},
	} {
		if l, why := cells.Ends(x.start, x.l, x.most); why != x.ends || why != api.OK && l != nil {
			t.Errorf("%s: Ends: %v, error %d", x.name, l, why)
		}
		if ok, why := cells.Fits(x.start, x.l, x.most); why != x.fits || ok != (why == api.OK) {
			t.Errorf("%s: Fits: %v, error %d", x.name, ok, why)
		}
	}
}

func TestEnds(t *testing.T) { // 1.5, and examples 2, 3
	write := func(cell int, x uint64) program {
		return program{{Kind: api.InsSet, Value: x}, {Kind: api.InsStore, Cell: cell}}
	}
	for _, x := range []struct {
		name  string
		start []uint64
		l     []program
		want  [][]uint64
	}{
		{"loads and stores", []uint64{0}, []program{loads(), loads()}, [][]uint64{{1}, {2}}},
		{"adds", []uint64{0}, []program{adds(), adds()}, [][]uint64{{2}}},
		{"nobody", []uint64{4, 5}, nil, [][]uint64{{4, 5}}},
		{"nothing", nil, []program{nil, sets(2)}, [][]uint64{{}}},
		{"for ever", []uint64{0}, []program{{{Kind: api.InsSet, Value: 1}, {Kind: api.InsJump, C: 1}}}, nil},
		{"one for ever", []uint64{0}, []program{adds(), {{Kind: api.InsSet, Value: 1}, {Kind: api.InsJump, C: 1}}}, nil},
		{"in the order of numbers", []uint64{0}, []program{write(0, 10), write(0, 9), write(0, math.MaxUint64)}, [][]uint64{{9}, {10}, {math.MaxUint64}}},
		{"the first cell unlike", []uint64{0, 0}, []program{
			append(write(0, 1), write(1, 9)...), append(write(0, 2), write(1, 3)...)},
			[][]uint64{{1, 3}, {1, 9}, {2, 3}, {2, 9}}},
		// Workers end with unlike registers here, and with the same cells.
		{"each once", []uint64{0}, []program{
			{{Kind: api.InsSet, Value: 1}, {Kind: api.InsSwap, B: 1}}, {{Kind: api.InsSet, Value: 1}, {Kind: api.InsSwap, B: 1}}},
			[][]uint64{{1}}},
	} {
		l, why := cells.Ends(x.start, x.l, 1000)
		if why != api.OK || !slices.EqualFunc(l, x.want, slices.Equal) {
			t.Errorf("%s: %v, error %d", x.name, l, why)
		}
	}
}

func TestEndsOfManyCells(t *testing.T) { // 1.5: as many cells, workers and situations as may be
	start := make([]uint64, api.MaxCells)
	start[api.MaxCells-1] = 9
	count := program{
		{Kind: api.InsSet, Value: 1},
		{Kind: api.InsAdd, B: 1, Cell: api.MaxCells - 1},
		{Kind: api.InsAdd, B: 2, Cell: 0},
		{Kind: api.InsSet, A: 3, Value: 209},
		{Kind: api.InsLess, A: 4, B: 1, C: 3},
		{Kind: api.InsJump, A: 4, C: 1},
	}
	l, why := cells.Ends(start, []program{count}, 1200)
	if why != api.OK || len(l) != 1 || len(l[0]) != api.MaxCells || l[0][0] != 200 || l[0][1] != 0 || l[0][api.MaxCells-1] != 209 {
		t.Error("Ends of many cells: error", why)
	}
	for most, want := range map[int]api.Errno{1002: api.OK, 1001: api.ErrMany} {
		if _, why := cells.Ends(start, []program{count}, most); why != want {
			t.Errorf("%d situations: error %d", most, why)
		}
	}
	if _, why := cells.Ends([]uint64{0}, slices.Repeat([]program{loads()}, api.MaxWorkers), 1<<16); why != api.ErrMany {
		t.Error("Ends of many workers: error", why)
	}
	one := func(n int) []program { return append(make([]program, n), adds()) }
	for _, n := range []int{0, 1, 2, 31, 62, 63} {
		if l, why := cells.Ends([]uint64{1, 5}, one(n), 3); why != api.OK || !slices.EqualFunc(l, [][]uint64{{2, 5}}, slices.Equal) {
			t.Errorf("Ends of one that works beside %d: %v, error %d", n, l, why)
		}
	}
}

func TestFits(t *testing.T) { // 1.5
	for range 50 {
		for _, l := range [][]program{nil, {nil}, {loads(), loads()}, {adds(), loads(), adds()}, {adds(), adds(), adds(), adds()}} {
			if ok, why := cells.Fits([]uint64{3}, l, 10000); why != api.OK || !ok {
				t.Fatalf("Fits(%v): %v, error %d", l, ok, why)
			}
		}
	}
}

// place is where a worker stands, for looking at programs another way than package cells does.
type place struct {
	regs [api.MaxRegs]uint64
	at   int
}

// after is what cells, and the worker, have when one instruction more was done.
func after(has [2]uint64, p place, i api.Ins) ([2]uint64, place) {
	p.at++
	a, b, c := p.regs[i.A], p.regs[i.B], p.regs[i.C%api.MaxRegs]
	truth := map[bool]uint64{true: 1}
	switch i.Kind {
	case api.InsSet:
		p.regs[i.A] = i.Value
	case api.InsSum:
		p.regs[i.A] = b + c
	case api.InsLess:
		p.regs[i.A] = truth[b < c]
	case api.InsSame:
		p.regs[i.A] = truth[b == c]
	case api.InsJump:
		if a != 0 {
			p.at = i.C
		}
	case api.InsLoad:
		p.regs[i.A] = has[i.Cell]
	case api.InsStore:
		has[i.Cell] = a
	case api.InsAdd:
		has[i.Cell] += a
		p.regs[i.B] = has[i.Cell]
	case api.InsSwap:
		p.regs[i.B], has[i.Cell] = has[i.Cell], a
	case api.InsCas:
		p.regs[i.C] = truth[has[i.Cell] == a]
		if has[i.Cell] == a {
			has[i.Cell] = b
		}
	}
	return has, p
}

type scene struct {
	has    [2]uint64
	places [3]place
}

// scenes are all that schedules lead three workers to.
func scenes(start [2]uint64, l []program) map[scene]bool {
	seen := map[scene]bool{}
	var visit func(scene)
	visit = func(s scene) {
		if seen[s] || len(seen) > 20000 {
			return
		}
		seen[s] = true
		for n, p := range l {
			if s.places[n].at < len(p) {
				next := s
				next.has, next.places[n] = after(s.has, s.places[n], p[s.places[n].at])
				visit(next)
			}
		}
	}
	visit(scene{has: start})
	return seen
}

func random(r *rand.Rand, length int, back bool) program {
	p := make(program, length)
	for n := range p {
		i := api.Ins{Kind: api.InsKind(1 + r.Intn(int(api.InsCount)-1)), A: r.Intn(3)}
		switch i.Kind {
		case api.InsSet:
			i.Value = uint64(r.Intn(4)) - 1
		case api.InsSum, api.InsLess, api.InsSame, api.InsCas:
			i.B, i.C = r.Intn(3), r.Intn(3)
		case api.InsJump:
			i.C = n + 1 + r.Intn(length-n)
			if back && r.Intn(2) == 0 {
				i.C = r.Intn(length + 1)
			}
		case api.InsAdd, api.InsSwap:
			i.B = r.Intn(3)
		}
		if i.Kind >= api.InsLoad {
			i.Cell = r.Intn(2)
		}
		p[n] = i
	}
	return p
}

func TestEndsAgainstAllSchedules(t *testing.T) { // 1.5
	r := rand.New(rand.NewSource(1))
	tried := 0
	for range 400 {
		l := []program{random(r, 1+r.Intn(5), true), random(r, r.Intn(5), true), random(r, r.Intn(4), true)}
		start := [2]uint64{uint64(r.Intn(2)), uint64(r.Intn(2))}
		all := scenes(start, l)
		if len(all) > 20000 {
			continue
		}
		tried++
		ends := map[[2]uint64]bool{}
		for s := range all {
			ended := true
			for n, p := range l {
				ended = ended && s.places[n].at == len(p)
			}
			if ended {
				ends[s.has] = true
			}
		}
		var want [][]uint64
		for e := range ends {
			want = append(want, e[:])
		}
		slices.SortFunc(want, slices.Compare[[]uint64])
		got, why := cells.Ends(start[:], l, len(all))
		if why != api.OK || !slices.EqualFunc(got, want, slices.Equal) {
			t.Fatalf("Ends(%v, %v, %d): %v, error %d, not %v", start, l, len(all), got, why, want)
		}
		if len(all) > 1 {
			if got, why := cells.Ends(start[:], l, len(all)-1); why != api.ErrMany || got != nil {
				t.Fatalf("Ends(%v, %v, %d): %v, error %d", start, l, len(all)-1, got, why)
			}
		}
	}
	if tried < 300 {
		t.Error("too few were tried:", tried)
	}
}

func TestOneBehindAnother(t *testing.T) { // 1.7, 1.8
	r := rand.New(rand.NewSource(2))
	ended := 0
	for range 500 {
		l := []program{random(r, r.Intn(7), true), random(r, r.Intn(7), true), random(r, r.Intn(7), true)}
		start := []uint64{uint64(r.Intn(3)), uint64(r.Intn(3))}
		schedule := make([]int, 40)
		for n := range schedule {
			schedule[n] = r.Intn(3)
		}
		f, why := cells.Run(start, l, schedule)
		if why != api.OK {
			t.Fatalf("Run(%v): error %d", l, why)
		}
		s := scene{has: [2]uint64(start)}
		for _, n := range schedule {
			if p := s.places[n]; p.at < len(l[n]) {
				s.has, s.places[n] = after(s.has, p, l[n][p.at])
			}
		}
		if !slices.Equal(f.Cells, s.has[:]) {
			t.Fatalf("Run(%v, %v, %v): cells %v, not %v", start, l, schedule, f.Cells, s.has)
		}
		for n, p := range s.places {
			if f.Regs[n] != p.regs || f.Ended[n] != (p.at == len(l[n])) {
				t.Fatalf("Run(%v, %v, %v): worker %d: %v", start, l, schedule, n, f)
			}
		}
		replay(t, start, f)
		if !slices.Contains(f.Ended, false) {
			ended++
			if ends, why := cells.Ends(start, l, api.MaxSteps); why == api.OK && !slices.ContainsFunc(ends, func(e []uint64) bool { return slices.Equal(e, f.Cells) }) {
				t.Fatalf("Run(%v, %v, %v): %v is none of %v", start, l, schedule, f.Cells, ends)
			}
		}
	}
	if ended < 200 {
		t.Error("too few schedules ended:", ended)
	}
}

// replay does the actions of a trace again: they must do the same, and come to the same.
func replay(t *testing.T, start []uint64, f api.Final) {
	t.Helper()
	c := made(t, start...)
	for n, e := range f.Trace {
		a := api.Act{Kind: e.Did.Kind, Cell: e.Did.Cell}
		switch a.Kind {
		case api.ActStore, api.ActSwap:
			a.New = e.Did.Put
		case api.ActAdd:
			a.New = e.Did.Put - e.Did.Saw
		case api.ActCas:
			a.Old, a.New = e.Did.Saw, e.Did.Put
			if !e.Did.Ok {
				a.Old++
			}
		}
		if d, why := c.Do(a); why != api.OK || d != e.Did {
			t.Fatalf("action %d: did %v, error %d, not %v", n, d, why, e.Did)
		}
	}
	if !slices.Equal(c.All(), f.Cells) {
		t.Fatalf("the actions come to %v, not to %v", c.All(), f.Cells)
	}
}

func TestAddsCommute(t *testing.T) { // 1.9
	r := rand.New(rand.NewSource(3))
	for range 50 {
		start := []uint64{r.Uint64(), r.Uint64()}
		want := slices.Clone(start)
		l := make([]program, 1+r.Intn(4))
		for n := range l {
			for range r.Intn(3) {
				cell, x := r.Intn(2), r.Uint64()
				want[cell] += x
				l[n] = append(l[n], api.Ins{Kind: api.InsSet, Value: x}, api.Ins{Kind: api.InsAdd, B: 1, Cell: cell})
			}
		}
		if ends, why := cells.Ends(start, l, api.MaxSteps); why != api.OK || !slices.EqualFunc(ends, [][]uint64{want}, slices.Equal) {
			t.Fatalf("Ends(%v, %v): %v, error %d, not %v", start, l, ends, why, want)
		}
		if ok, why := cells.Fits(start, l, api.MaxSteps); why != api.OK || !ok {
			t.Fatalf("Fits(%v, %v): %v, error %d", start, l, ok, why)
		}
	}
}

func TestLostAndNotLost(t *testing.T) { // 1.10
	for _, x := range []struct {
		p    program
		want [][]uint64
	}{{loads(), [][]uint64{{1}, {2}}}, {adds(), [][]uint64{{2}}}, {tries(), [][]uint64{{2}}}} {
		if l, why := cells.Ends([]uint64{0}, []program{x.p, x.p}, 1000); why != api.OK || !slices.EqualFunc(l, x.want, slices.Equal) {
			t.Errorf("Ends of two %v: %v, error %d", x.p, l, why)
		}
	}
}

func TestProgramsAnswerNewMemory(t *testing.T) { // 1.6
	start, schedule := []uint64{0, 7}, []int{0, 1, 0, 1, 0, 1, 0, 1}
	l := []program{loads(), loads()}
	f, _ := cells.Run(start, l, schedule)
	first, _ := cells.Ends(start, l, 1000)
	cells.Fits(start, l, 1000)
	cells.Check(2, l)
	if !slices.Equal(start, []uint64{0, 7}) || !slices.Equal(schedule, []int{0, 1, 0, 1, 0, 1, 0, 1}) || !reflect.DeepEqual(l, []program{loads(), loads()}) {
		t.Error("what was handed in has changed:", start, schedule, l)
	}
	f.Cells[0], f.Cells[1] = 50, 51
	first[0][1] = 52
	_ = append(first[0], 53)
	if !slices.Equal(start, []uint64{0, 7}) || !slices.Equal(first[1], []uint64{2, 7}) {
		t.Error("an answer shares memory:", start, first)
	}
	start[0] = 9
	if second, _ := cells.Ends([]uint64{0, 7}, l, 1000); !slices.EqualFunc(second, [][]uint64{{1, 7}, {2, 7}}, slices.Equal) {
		t.Error("a later answer shares memory:", second)
	}
}
