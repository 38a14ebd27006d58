package crdt

import (
	"slices"
	"testing"

	"abacus/api"
)

// What Free's nodes have when they end is looked at, of each: all have all.
func TestAllHaveAll(t *testing.T) { // 23.5
	l := [][]int64{{1, -2}, nil, {5}, {0}, {-7, -7, 3}}
	want := []api.Node{{Name: "n0", Up: 1, Down: 2}, {Name: "n2", Up: 5}, {Name: "n4", Up: 3, Down: 14}}
	for range 200 {
		nodes := newTalkers(len(l))
		meet(nodes, l)
		for i, n := range nodes {
			if got := n.counter.State(); !slices.Equal(got, want) {
				t.Fatalf("the node %d has %v", i, got)
			}
			if len(n.told) > 0 {
				t.Fatalf("the node %d was told what it did not take", i)
			}
		}
	}
	many := slices.Repeat([][]int64{{1, -1}}, api.MaxNodes)
	nodes := newTalkers(api.MaxNodes)
	meet(nodes, many)
	for i, n := range nodes {
		if got := n.counter.State(); len(got) != api.MaxNodes || n.counter.Value() != 0 {
			t.Fatalf("the node %d has %v", i, got)
		}
	}
}
