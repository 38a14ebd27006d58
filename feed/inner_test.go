package feed

import (
	"testing"

	"abacus/api"
)

// What Free's readers took is held against what its writers put: other orders and other values are told.
func TestInOrder(t *testing.T) { // 21.3
	l := [][]uint64{{5, 6, 5}, {5, 9}}
	put := [][]uint64{{0, 2, 3}, {1, 4}}
	at := func(place, x uint64) api.Fed { return api.Fed{At: place, X: x} }
	for _, x := range []struct {
		name string
		took [][]api.Fed
		want bool
	}{
		{"nothing", [][]api.Fed{nil, nil}, true},
		{"as it was put", [][]api.Fed{{at(0, 5), at(1, 5), at(2, 6), at(3, 5), at(4, 9)}}, true},
		{"one writer's behind another's", [][]api.Fed{{at(1, 5), at(4, 9), at(0, 5), at(2, 6), at(3, 5)}}, true},
		{"by two", [][]api.Fed{{at(2, 6), at(3, 5)}, {at(0, 5), at(1, 5), at(4, 9)}}, true},
		{"by two, with one left out", [][]api.Fed{{at(0, 5), at(3, 5)}, {at(1, 5), at(2, 6), at(4, 9)}}, true},
		{"the last one first", [][]api.Fed{{at(3, 5), at(0, 5)}}, false},
		{"two changed", [][]api.Fed{{at(0, 5)}, {at(4, 9), at(1, 5)}}, false},
		{"one twice", [][]api.Fed{{at(0, 5), at(0, 5)}}, false},
		{"another value", [][]api.Fed{{at(0, 5), at(2, 5)}}, false},
		{"another writer's value", [][]api.Fed{{at(4, 5)}}, false},
		{"a place at which nobody put", [][]api.Fed{nil, {at(5, 5)}}, false},
	} {
		c := &crowd{put: put, took: x.took}
		if got := c.inOrder(l); got != x.want {
			t.Errorf("%s: %v", x.name, got)
		}
	}
}
