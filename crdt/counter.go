package crdt

import (
	"cmp"
	"maps"
	"slices"
	"strings"
	"sync"

	"abacus/api"
	"abacus/labels"
)

// Counter is a node's counter: what it counted itself, and what it was told that others did.
type Counter struct {
	name  string
	lock  sync.Mutex // guards what follows
	nodes map[string]api.Node
}

// New is that of a node with a name.
func New(name string) (*Counter, api.Errno) {
	if !labels.Name(name) {
		return nil, api.ErrName
	}
	return &Counter{name: strings.Clone(name), nodes: map[string]api.Node{}}, api.OK
}

// Add counts up.
func (c *Counter) Add(n uint64) api.Errno {
	return c.count(n, 0)
}

// Sub counts down.
func (c *Counter) Sub(n uint64) api.Errno {
	return c.count(0, n)
}

func (c *Counter) count(up, down uint64) api.Errno {
	if c == nil {
		return api.ErrNil
	}
	c.lock.Lock()
	defer c.lock.Unlock()
	own, is := c.nodes[c.name]
	own, fits := more(own, up, down)
	switch {
	case !fits:
		return api.ErrFull
	case up == 0 && down == 0: // a node that has nothing does not stand in a state
		return api.OK
	case !is && len(c.nodes) == api.MaxNodes:
		return api.ErrMany
	}
	own.Name = c.name
	c.nodes[c.name] = own
	return api.OK
}

// more is a node that counted so much more; false, if that would be too much.
func more(n api.Node, up, down uint64) (api.Node, bool) {
	if up > api.MaxUp-n.Up || down > api.MaxUp-n.Down {
		return api.Node{}, false
	}
	n.Up += up
	n.Down += down
	return n, true
}

// Take merges a state.
func (c *Counter) Take(l []api.Node) api.Errno {
	if c == nil {
		return api.ErrNil
	}
	c.lock.Lock()
	defer c.lock.Unlock()
	both, why := Merge(c.state(), l)
	if why != api.OK {
		return why
	}
	for _, n := range both {
		c.nodes[n.Name] = n
	}
	return api.OK
}

// State is what the counter has.
func (c *Counter) State() []api.Node {
	if c == nil {
		return nil
	}
	c.lock.Lock()
	defer c.lock.Unlock()
	return c.state()
}

// state are the nodes by name, of new memory; the lock is held.
func (c *Counter) state() []api.Node {
	var l []api.Node
	for n := range maps.Values(c.nodes) {
		l = append(l, copied(n))
	}
	slices.SortFunc(l, func(a, b api.Node) int { return cmp.Compare(a.Name, b.Name) })
	return l
}

// Value is what the counter's state comes to.
func (c *Counter) Value() int64 {
	return comesTo(c.State())
}
