package crdt

import (
	"strconv"
	"sync"

	"abacus/api"
	"abacus/lists"
)

// Free has nodes count on goroutines, and send one another what they have, till all have all: the state that all have then.
func Free(l [][]int64) ([]api.Node, api.Errno) {
	if len(l) > api.MaxNodes || lists.TooMany(l) {
		return nil, api.ErrMany
	}
	for _, numbers := range l {
		if !fit(numbers) {
			return nil, api.ErrFull
		}
	}
	if len(l) == 0 {
		return nil, api.OK
	}
	nodes := newTalkers(len(l))
	meet(nodes, l)
	return nodes[0].counter.State(), api.OK // what all others have, too
}

// fit tells whether a node may count so many.
func fit(numbers []int64) bool {
	var n api.Node
	for _, x := range numbers {
		var fits bool
		up, down := amounts(x)
		if n, fits = more(n, up, down); !fits {
			return false
		}
	}
	return true
}

// amounts are what a number counts up and down. (The amount of the least number of all is no int64.)
func amounts(x int64) (uint64, uint64) {
	if x < 0 {
		return 0, -uint64(x)
	}
	return uint64(x), 0
}

// talker is a node's counter, and the channel by which others tell it what they have.
type talker struct {
	counter *Counter
	told    chan []api.Node
}

// newTalkers have channels with room for what all tell, so that nobody waits to tell it.
func newTalkers(n int) []talker {
	var nodes []talker
	for i := range n {
		c, _ := New("n" + strconv.Itoa(i))
		nodes = append(nodes, talker{counter: c, told: make(chan []api.Node, n)})
	}
	return nodes
}

// meet has each node count a list, and talk with all; it answers when all have all.
func meet(nodes []talker, l [][]int64) {
	var all sync.WaitGroup
	for i, numbers := range l {
		all.Add(1)
		go func() {
			defer all.Done()
			nodes[i].count(numbers)
			nodes[i].talk(nodes)
		}()
	}
	all.Wait()
}

func (t talker) count(numbers []int64) {
	for _, x := range numbers {
		up, down := amounts(x)
		t.counter.count(up, down)
	}
}

// talk tells all nodes what this one has, and takes what each of them tells: in whatever order, it comes to the same. (A node tells itself, too: so all hear of as many as there are.)
func (t talker) talk(nodes []talker) {
	has := t.counter.State()
	for _, other := range nodes {
		other.told <- has
	}
	for range nodes {
		t.counter.Take(<-t.told)
	}
}
