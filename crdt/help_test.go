package crdt_test

import (
	"fmt"
	"math/rand"
	"regexp"
	"slices"
	"strings"
	"testing"
	"unsafe"

	"abacus/api"
	"abacus/crdt"
)

// state is nodes by their words: "a 3 0, b 1 1".
func state(words string) []api.Node {
	var l []api.Node
	for _, word := range strings.Split(words, ", ") {
		if word == "" {
			continue
		}
		var n api.Node
		if _, err := fmt.Sscan(word, &n.Name, &n.Up, &n.Down); err != nil {
			panic(err)
		}
		l = append(l, n)
	}
	return l
}

// named is a state of nodes with these names.
func named(names ...string) []api.Node {
	var l []api.Node
	for i, name := range names {
		l = append(l, api.Node{Name: name, Up: uint64(i + 1)})
	}
	return l
}

// nodes are so many, each with a name of its own.
func nodes(n int) []api.Node {
	var l []api.Node
	for i := range n {
		l = append(l, api.Node{Name: fmt.Sprintf("m%03d", i), Up: uint64(i % 3), Down: 1})
	}
	return l
}

// join is lists one behind another.
func join(l ...[]api.Node) []api.Node {
	return slices.Concat(l...)
}

// neighbours are names that are next to one another by their bytes, not all in the order of their letters or numbers.
var neighbours = []string{"A", "Z", "_", "_a", "a", "a0", "a1", "a10", "a2", "aA", "a_", "aa", "ab", "b", "z"}

// long is a name of as many bytes as may be.
var long = strings.Repeat("x", api.MaxName)

// amounts are what a node may have counted, the bounds among them.
var amounts = []uint64{0, 0, 1, 1, 2, 3, api.MaxUp - 1, api.MaxUp}

// some is a state by chance.
func some(r *rand.Rand) []api.Node {
	var l []api.Node
	for _, name := range neighbours[:1+r.Intn(len(neighbours))] {
		n := api.Node{Name: name, Up: amounts[r.Intn(len(amounts))], Down: amounts[r.Intn(len(amounts))]}
		if r.Intn(3) > 0 && n.Up+n.Down > 0 {
			l = append(l, n)
		}
	}
	return l
}

// case of a list that is no state.
type wrong struct {
	name string
	l    []api.Node
}

// wrongStates are lists that are no state, each by one fault.
func wrongStates() []wrong {
	all := []wrong{
		{"one node more than may be", nodes(api.MaxNodes + 1)},
		{"twice as many as may be", nodes(2 * api.MaxNodes)},
		{"one name twice", named("a", "a")},
		{"one name twice behind others", named("a", "b", "b", "c")},
		{"one name twice at the end of many", join(nodes(api.MaxNodes-1), nodes(api.MaxNodes - 1)[api.MaxNodes-2:])},
		{"one node twice", state("a 3 1, a 3 1")},
		{"falling", named("b", "a")},
		{"falling at the end", named("a", "b", "aa")},
		{"by letters, not by bytes", named("a", "B")},
		{"by numbers, not by bytes", named("a2", "a10")},
		{"the longer one first", named("aa", "a")},
		{"_ behind a letter", named("a", "_")},
		{"nothing counted", state("a 0 0")},
		{"nothing counted, among others", state("a 1 0, b 0 0, c 0 1")},
		{"nothing counted, behind many", join(nodes(api.MaxNodes-1), state("z 0 0"))},
	}
	for _, n := range []uint64{api.MaxUp + 1, 1 << 57, 1 << 63, 1<<64 - 1} {
		for _, other := range []uint64{0, 1, api.MaxUp} {
			all = append(all,
				wrong{fmt.Sprint("Up is ", n), []api.Node{{Name: "a", Up: n, Down: other}}},
				wrong{fmt.Sprint("Down is ", n), []api.Node{{Name: "a", Up: other, Down: n}}})
		}
		all = append(all, wrong{fmt.Sprint("the last Up is ", n), join(nodes(api.MaxNodes-1), []api.Node{{Name: "z", Up: n}})})
	}
	for _, name := range []string{"", "9", "0a", "a-b", "a b", " a", "a ", "a\n", "a\x00", "a.b", "a:b", "a@", "a[", "a`", "a{", "é", "aé", "\xff", "a\xff", "-", "/", long + "x", long + long} {
		all = append(all, wrong{fmt.Sprintf("the name %q", name), named(name)})
		if name > "A" && name < "z" {
			all = append(all, wrong{fmt.Sprintf("the name %q between others", name), named("A", name, "z")})
		}
	}
	return all
}

// isState tells by the document's words whether a list is right.
func isState(l []api.Node) bool {
	for i, n := range l {
		if !nameOnly.MatchString(n.Name) || n.Up > 1<<56 || n.Down > 1<<56 || n.Up+n.Down == 0 {
			return false
		}
		if i > 0 && !(l[i-1].Name < n.Name) {
			return false
		}
	}
	return len(l) <= 64
}

var nameOnly = regexp.MustCompile(`\A[A-Za-z_][A-Za-z0-9_]{0,63}\z`)

// book is what nodes counted, by their names.
type book map[string][2]uint64

func bookOf(l []api.Node) book {
	b := book{}
	b.take(l)
	return b
}

// take has the greater one of each.
func (b book) take(l []api.Node) {
	for _, n := range l {
		has := b[n.Name]
		b[n.Name] = [2]uint64{max(has[0], n.Up), max(has[1], n.Down)}
	}
}

// state are those that are not 0, by name.
func (b book) state() []api.Node {
	var names []string
	for name, has := range b {
		if has != [2]uint64{} {
			names = append(names, name)
		}
	}
	slices.Sort(names)
	var l []api.Node
	for _, name := range names {
		l = append(l, api.Node{Name: name, Up: b[name][0], Down: b[name][1]})
	}
	return l
}

func (b book) value() int64 {
	var up, down int64
	for _, has := range b {
		up += int64(has[0])
		down += int64(has[1])
	}
	return up - down
}

// hasAll tells whether a list has for each node of another one of the same name that is no less.
func hasAll(l, of []api.Node) bool {
	has := bookOf(l)
	for _, n := range of {
		if has[n.Name][0] < n.Up || has[n.Name][1] < n.Down {
			return false
		}
	}
	return true
}

func merges(t *testing.T, a, b []api.Node, why api.Errno, want ...api.Node) {
	t.Helper()
	if got, e := crdt.Merge(a, b); !slices.Equal(got, want) || e != why {
		t.Errorf("Merge(%v, %v): %v, error %d, want %v, error %d", a, b, got, e, want, why)
	}
}

func merged(t *testing.T, a, b []api.Node) []api.Node {
	t.Helper()
	both, why := crdt.Merge(a, b)
	if why != api.OK {
		t.Fatalf("Merge(%v, %v): error %d", a, b, why)
	}
	return both
}

func below(t *testing.T, a, b []api.Node, want bool) {
	t.Helper()
	if got, why := crdt.Below(a, b); got != want || why != api.OK {
		t.Errorf("Below(%v, %v): %v, error %d, want %v", a, b, got, why, want)
	}
}

func deltas(t *testing.T, l, seen []api.Node, want ...api.Node) {
	t.Helper()
	if got, why := crdt.Delta(l, seen); !slices.Equal(got, want) || why != api.OK {
		t.Errorf("Delta(%v, %v): %v, error %d, want %v", l, seen, got, why, want)
	}
}

func delta(t *testing.T, l, seen []api.Node) []api.Node {
	t.Helper()
	d, why := crdt.Delta(l, seen)
	if why != api.OK {
		t.Fatalf("Delta(%v, %v): error %d", l, seen, why)
	}
	return d
}

func made(t *testing.T, name string) *crdt.Counter {
	t.Helper()
	c, why := crdt.New(name)
	if c == nil || why != api.OK {
		t.Fatalf("New(%q): error %d", name, why)
	}
	return c
}

func adds(t *testing.T, c *crdt.Counter, n uint64, want api.Errno) {
	t.Helper()
	if why := c.Add(n); why != want {
		t.Errorf("Add(%d): error %d, want %d", n, why, want)
	}
}

func subs(t *testing.T, c *crdt.Counter, n uint64, want api.Errno) {
	t.Helper()
	if why := c.Sub(n); why != want {
		t.Errorf("Sub(%d): error %d, want %d", n, why, want)
	}
}

func takes(t *testing.T, c *crdt.Counter, l []api.Node, want api.Errno) {
	t.Helper()
	if why := c.Take(l); why != want {
		t.Errorf("Take(%v): error %d, want %d", l, why, want)
	}
}

// has holds a counter against the state that it is to have.
func has(t *testing.T, c *crdt.Counter, want ...api.Node) {
	t.Helper()
	if got := c.State(); !slices.Equal(got, want) {
		t.Errorf("State: %v, want %v", got, want)
	}
	if got := c.Value(); got != bookOf(want).value() {
		t.Errorf("Value of %v: %d, want %d", want, got, bookOf(want).value())
	}
}

// areApart tells whether no two of all names share memory.
func areApart(lists ...[]api.Node) bool {
	at := map[*byte]bool{}
	for _, n := range join(lists...) {
		if at[unsafe.StringData(n.Name)] {
			return false
		}
		at[unsafe.StringData(n.Name)] = true
	}
	return true
}

// spoil overwrites a list, and its spare room.
func spoil(l []api.Node) {
	l = l[:cap(l)]
	for i := range l {
		l[i] = api.Node{Name: "spoilt", Up: 77, Down: 77}
	}
}

// fresh is a list whose names are of new memory.
func fresh(l []api.Node) []api.Node {
	var all []api.Node
	for _, n := range l {
		n.Name = strings.Clone(n.Name)
		all = append(all, n)
	}
	return all
}

// orders calls with each order of a list.
func orders[T any](l []T, call func([]T)) {
	var from func(i int)
	from = func(i int) {
		if i == len(l) {
			call(l)
			return
		}
		for k := i; k < len(l); k++ {
			l[i], l[k] = l[k], l[i]
			from(i + 1)
			l[i], l[k] = l[k], l[i]
		}
	}
	from(0)
}
