package snap_test

import (
	"math"
	"slices"
	"sync"
	"testing"

	"abacus/api"
	"abacus/snap"
)

func made(t *testing.T, n int) *snap.Regs {
	t.Helper()
	g, why := snap.New(n)
	if g == nil || why != api.OK {
		t.Fatalf("New(%d): error %d", n, why)
	}
	return g
}

func puts(t *testing.T, g *snap.Regs, reg int, value uint32, want api.Reg, err api.Errno) {
	t.Helper()
	if got, why := g.Put(reg, value); got != want || why != err {
		t.Errorf("Put(%d, %d): %v, error %d, want %v, error %d", reg, value, got, why, want, err)
	}
}

func gets(t *testing.T, g *snap.Regs, reg int, want api.Reg, err api.Errno) {
	t.Helper()
	if got, why := g.Get(reg); got != want || why != err {
		t.Errorf("Get(%d): %v, error %d, want %v, error %d", reg, got, why, want, err)
	}
}

func scans(t *testing.T, g *snap.Regs, tries int, want []api.Reg, err api.Errno) {
	t.Helper()
	if got, why := g.Scan(tries); !slices.Equal(got, want) || why != err {
		t.Errorf("Scan(%d): %v, error %d, want %v, error %d", tries, got, why, want, err)
	}
}

func TestNew(t *testing.T) { // 14.1
	for _, n := range []int{0, -1, api.MaxWorkers + 1, math.MinInt, math.MaxInt} {
		if g, why := snap.New(n); g != nil || why != api.ErrRange {
			t.Errorf("New(%d): error %d", n, why)
		}
	}
	for _, n := range []int{1, 2, 7, api.MaxWorkers} {
		g, none := made(t, n), make([]api.Reg, n)
		if got := g.All(); !slices.Equal(got, none) {
			t.Errorf("New(%d) has %v", n, got)
		}
		scans(t, g, 2, none, api.OK)
	}
}

func TestExample(t *testing.T) { // 14.2, example 1
	g := made(t, 2)
	puts(t, g, 0, 5, api.Reg{Number: 1, Value: 5}, api.OK)
	puts(t, g, 0, 7, api.Reg{Number: 2, Value: 7}, api.OK)
	gets(t, g, 1, api.Reg{}, api.OK)
	scans(t, g, 2, []api.Reg{{Number: 2, Value: 7}, {}}, api.OK)
	scans(t, g, 1, nil, api.ErrBusy)
	scans(t, g, 0, nil, api.ErrRange)
	puts(t, g, 2, 1, api.Reg{}, api.ErrRange)
	if got := g.All(); !slices.Equal(got, []api.Reg{{Number: 2, Value: 7}, {}}) {
		t.Error("All:", got)
	}
}

func TestPutAndGet(t *testing.T) { // 14.1, 14.2, 14.9
	g := made(t, 3)
	var want [3]api.Reg
	for i, value := range []uint32{0, 1, math.MaxUint32, math.MaxUint32, 0, 1 << 31, 5, 5, 5, 0} {
		reg := i % 3
		want[reg] = api.Reg{Number: want[reg].Number + 1, Value: value}
		puts(t, g, reg, value, want[reg], api.OK)
		for n := range want {
			gets(t, g, n, want[n], api.OK)
		}
		for _, tries := range []int{2, 3, api.MaxTries} {
			scans(t, g, tries, want[:], api.OK)
		}
		scans(t, g, 1, nil, api.ErrBusy)
		if got := g.All(); !slices.Equal(got, want[:]) {
			t.Errorf("All: %v, want %v", got, want)
		}
	}
}

func TestOutOfRange(t *testing.T) { // 14.2
	for _, n := range []int{1, 5, api.MaxWorkers} {
		g := made(t, n)
		for _, reg := range []int{-1, n, math.MinInt, math.MaxInt, 1 << 32} {
			puts(t, g, reg, 1, api.Reg{}, api.ErrRange)
			gets(t, g, reg, api.Reg{}, api.ErrRange)
		}
		for _, tries := range []int{0, -1, api.MaxTries + 1, math.MinInt, math.MaxInt} {
			scans(t, g, tries, nil, api.ErrRange)
		}
		if got := g.All(); !slices.Equal(got, make([]api.Reg, n)) {
			t.Error("a refused call changes something:", got)
		}
		puts(t, g, n-1, 1, api.Reg{Number: 1, Value: 1}, api.OK)
	}
}

func TestNil(t *testing.T) { // 14.5
	var g *snap.Regs
	if len(g.All()) != 0 {
		t.Error("nil Regs have:", g.All())
	}
	puts(t, g, 0, 1, api.Reg{}, api.ErrNil)
	puts(t, g, -1, 1, api.Reg{}, api.ErrNil)
	gets(t, g, 0, api.Reg{}, api.ErrNil)
	gets(t, g, -1, api.Reg{}, api.ErrNil)
	scans(t, g, 2, nil, api.ErrNil)
	scans(t, g, 0, nil, api.ErrNil)
	for _, op := range []api.SnapOp{{Kind: api.SnapGet}, {}, {Kind: api.SnapScan}} {
		if p, why := g.Start(op); p != nil || why != api.ErrNil {
			t.Errorf("Start(%v) of nil Regs: error %d", op, why)
		}
	}
	var p *snap.Pending
	for range 2 {
		if d, ended := p.Step(); d != (api.Did{}) || !ended || !p.Done() || !isZero(p.Answer()) {
			t.Error("a nil operation:", d, ended, p.Done(), p.Answer())
		}
	}
}

func TestNewMemory(t *testing.T) { // 14.5
	g := made(t, 2)
	puts(t, g, 1, 9, api.Reg{Number: 1, Value: 9}, api.OK)
	want := []api.Reg{{}, {Number: 1, Value: 9}}
	all := g.All()
	scan, _ := g.Scan(2)
	p := begin(t, g, api.SnapOp{Kind: api.SnapScan, Tries: 2})
	for !p.Done() {
		p.Step()
	}
	answer := p.Answer().Regs
	for _, l := range [][]api.Reg{all, scan, answer} {
		l[0], l[1] = api.Reg{Number: 7}, api.Reg{Number: 8}
	}
	if !slices.Equal(g.All(), want) || !slices.Equal(p.Answer().Regs, want) {
		t.Error("an answer is what is kept:", g.All(), p.Answer())
	}
	scans(t, g, 2, want, api.OK)
}

func TestRegsAreApart(t *testing.T) { // P4
	a, b := made(t, 1), made(t, 1)
	puts(t, a, 0, 5, api.Reg{Number: 1, Value: 5}, api.OK)
	gets(t, b, 0, api.Reg{}, api.OK)
}

// together runs a function by so many goroutines, which begin at one time, and joins them.
func together(workers int, f func(worker int)) {
	begin := make(chan struct{})
	var all sync.WaitGroup
	for w := range workers {
		all.Go(func() {
			<-begin
			f(w)
		})
	}
	close(begin)
	all.Wait()
}

// Each worker puts to a register of its own and looks at all; the values are the numbers, so that words that were put in part would show.
func TestPlainCallsByMany(t *testing.T) { // 14.1, 14.2, 14.7, 14.9
	const workers, each = 8, 3000
	g := made(t, workers)
	together(workers, func(reg int) {
		last := make([]api.Reg, workers)
		look := func(l []api.Reg) {
			inPart := func(r api.Reg) bool { return r.Value != r.Number }
			if less(l, last) || slices.ContainsFunc(l, inPart) {
				t.Errorf("behind %v comes %v", last, l)
			}
			last = l
		}
		for i := range uint32(each) {
			own := api.Reg{Number: i + 1, Value: i + 1}
			puts(t, g, reg, i+1, own, api.OK)
			gets(t, g, reg, own, api.OK)
			look(g.All())
			l, why := g.Scan(1 + int(i%4))
			switch why {
			case api.OK:
				look(l)
			case api.ErrBusy:
				if l != nil {
					t.Error("a busy scan answers", l)
				}
			default:
				t.Error("Scan: error", why)
			}
			if last[reg] != own {
				t.Errorf("%v of its own register, want %v", last[reg], own)
			}
		}
	})
	scans(t, g, 2, slices.Repeat([]api.Reg{{Number: each, Value: each}}, workers), api.OK)
}

// All put to one register: each number is told once, with the value that was put by it.
func TestPutsToOneRegister(t *testing.T) { // 14.2, 14.9
	const workers, each = 8, 20000
	g := made(t, 2)
	told := make([][]api.Reg, workers)
	together(workers, func(w int) {
		for i := range each {
			value := uint32(w*each + i)
			r, why := g.Put(1, value)
			if r.Value != value || why != api.OK {
				t.Errorf("Put(1, %d): %v, error %d", value, r, why)
			}
			told[w] = append(told[w], r)
		}
	})
	values := make([]int, workers*each+1)
	for _, l := range told {
		for _, r := range l {
			values[r.Number] += int(r.Value) + 1
		}
	}
	if values[0] != 0 || slices.Contains(values[1:], 0) {
		t.Error("a number is told twice, or not at all")
	}
	gets(t, g, 1, api.Reg{Number: workers * each, Value: uint32(values[workers*each] - 1)}, api.OK)
	gets(t, g, 0, api.Reg{}, api.OK)
}

// One puts to all registers in turn, from 0 on: at each moment the first so many are one ahead of the others, and so they are seen.
func TestScanWhileOnePuts(t *testing.T) { // 14.2, 14.6
	const regs, rounds, scanners = 4, 20000, 3
	g := made(t, regs)
	seen := make([]int, scanners)
	together(scanners+1, func(w int) {
		if w == scanners {
			for i := range regs * rounds {
				g.Put(i%regs, 0)
			}
			return
		}
		for range rounds {
			l, why := g.Scan(2 + w)
			if why != api.OK {
				continue
			}
			seen[w]++
			order := func(a, b api.Reg) int { return int(b.Number) - int(a.Number) }
			if !slices.IsSortedFunc(l, order) || l[0].Number-l[regs-1].Number > 1 {
				t.Errorf("a scan saw %v", l)
			}
		}
	})
	if slices.Contains(seen, 0) {
		t.Error("no scan was clean, of some:", seen)
	}
}
