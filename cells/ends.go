package cells

import (
	"math/bits"
	"slices"
	"sync"

	"abacus/api"
)

// Ends are all that the cells may have when all programs have ended, whatever the schedule, if at most so many situations are gone through.
func Ends(start []uint64, l [][]api.Ins, most int) ([][]uint64, api.Errno) {
	if why := checkSearch(len(start), l, most); why != api.OK {
		return nil, why
	}
	return search(start, l, most)
}

// Fits runs the programs by goroutines, and tells whether the cells' end is one of Ends.
func Fits(start []uint64, l [][]api.Ins, most int) (bool, api.Errno) {
	if why := checkSearch(len(start), l, most); why != api.OK {
		return false, why
	}
	if jumpsBack(l) {
		return false, api.ErrBack
	}
	ends, why := search(start, l, most)
	if why != api.OK {
		return false, why
	}
	_, found := slices.BinarySearchFunc(ends, free(start, l), slices.Compare[[]uint64])
	return found, api.OK
}

func checkSearch(cells int, l [][]api.Ins, most int) api.Errno {
	if why, _, _ := Check(cells, l); why != api.OK {
		return why
	}
	if most < 1 || most > api.MaxSteps {
		return api.ErrRange
	}
	return api.OK
}

// jumpsBack tells whether a program has a jump back, or to itself: goroutines might never end.
func jumpsBack(l [][]api.Ins) bool {
	for _, program := range l {
		for place, i := range program {
			if i.Kind == api.InsJump && i.C <= place {
				return true
			}
		}
	}
	return false
}

// free is what the cells have when each program was run on a goroutine of its own.
func free(start []uint64, l [][]api.Ins) []uint64 {
	c := from(start)
	var all sync.WaitGroup
	for _, program := range l {
		all.Add(1)
		go func() {
			defer all.Done()
			var w worker
			for w.place < len(program) {
				w.step(program[w.place], c.act)
			}
		}()
	}
	all.Wait()
	return c.All()
}

// situation is what the cells have, and where each worker has come to: both as trees of a forest, so that it may be a map's key and be kept cheaply.
type situation struct {
	cells, workers uint64
}

// seeker goes through all situations that schedules lead to.
type seeker struct {
	programs               [][]api.Ins
	forest                 forest
	cellsDeep, workersDeep int
	states                 []worker // a leaf of a tree of workers is a number of these
	number                 map[worker]uint64
	seen                   map[situation]struct{}
	left                   []situation
	ends                   []uint64
}

// search is what Ends answers of programs that are right.
func search(start []uint64, l [][]api.Ins, most int) ([][]uint64, api.Errno) {
	s := newSeeker(start, l)
	for len(s.left) > 0 && len(s.seen) <= most {
		last := len(s.left) - 1
		x := s.left[last]
		s.left = s.left[:last]
		s.goOn(x)
	}
	if len(s.seen) > most {
		return nil, api.ErrMany
	}
	return s.sortedEnds(len(start)), api.OK
}

func newSeeker(start []uint64, l [][]api.Ins) *seeker {
	s := &seeker{
		programs:    l,
		forest:      newForest(),
		cellsDeep:   depth(len(start)),
		workersDeep: depth(len(l)),
		number:      map[worker]uint64{},
		seen:        map[situation]struct{}{},
	}
	fresh := slices.Repeat([]uint64{s.state(worker{})}, len(l))
	s.visit(situation{
		cells:   s.forest.plant(start, s.cellsDeep),
		workers: s.forest.plant(fresh, s.workersDeep),
	})
	return s
}

// depth is how deep a tree is that has n leaves or more.
func depth(n int) int {
	return bits.Len(uint(max(n, 1) - 1))
}

// state is the number of where a worker has come to.
func (s *seeker) state(w worker) uint64 {
	n, ok := s.number[w]
	if !ok {
		n = uint64(len(s.states))
		s.number[w] = n
		s.states = append(s.states, w)
	}
	return n
}

func (s *seeker) visit(x situation) {
	if _, ok := s.seen[x]; !ok {
		s.seen[x] = struct{}{}
		s.left = append(s.left, x)
	}
}

// goOn visits the situations that one instruction more of some worker leads to; where all have ended, the cells' end is noted.
func (s *seeker) goOn(x situation) {
	ended := true
	for n, program := range s.programs {
		w := s.states[s.forest.leaf(x.workers, s.workersDeep, n)]
		if w.place == len(program) {
			continue
		}
		ended = false
		next := x
		w.step(program[w.place], func(a api.Act) api.Did {
			did := outcome(a, s.forest.leaf(x.cells, s.cellsDeep, a.Cell))
			next.cells = s.forest.graft(x.cells, s.cellsDeep, a.Cell, did.Put)
			return did
		})
		next.workers = s.forest.graft(x.workers, s.workersDeep, n, s.state(w))
		s.visit(next)
	}
	if ended {
		s.ends = append(s.ends, x.cells)
	}
}

// sortedEnds are the ends, each once: workers with other registers may leave the same cells.
func (s *seeker) sortedEnds(cells int) [][]uint64 {
	slices.Sort(s.ends)
	var list [][]uint64
	for _, tree := range slices.Compact(s.ends) {
		end := make([]uint64, cells)
		s.forest.words(tree, s.cellsDeep, end)
		list = append(list, end)
	}
	slices.SortFunc(list, slices.Compare[[]uint64])
	return list
}
