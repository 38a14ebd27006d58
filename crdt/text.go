package crdt

import (
	"strconv"
	"strings"

	"abacus/api"
)

// Print writes a state, a line a node.
func Print(l []api.Node) (string, api.Errno) {
	if why := Check(l); why != api.OK {
		return "", why
	}
	var text strings.Builder
	for _, n := range l {
		text.WriteString(n.Name)
		text.WriteByte(' ')
		text.WriteString(strconv.FormatUint(n.Up, 10))
		text.WriteByte(' ')
		text.WriteString(strconv.FormatUint(n.Down, 10))
		text.WriteByte('\n')
	}
	return text.String(), api.OK
}

// Parse reads a state.
func Parse(s string) ([]api.Node, api.Errno) {
	var l []api.Node
	for s != "" {
		line, rest, ended := strings.Cut(s, "\n")
		n, is := nodeOf(line)
		if !ended || !is || len(l) == api.MaxNodes {
			return nil, api.ErrState
		}
		l = append(l, n)
		s = rest
	}
	if why := Check(l); why != api.OK {
		return nil, why
	}
	return l, api.OK
}

// nodeOf is the node that a line says; false, if it says none that may be.
func nodeOf(line string) (api.Node, bool) {
	name, counts, _ := strings.Cut(line, " ")
	up, down, _ := strings.Cut(counts, " ")
	n := api.Node{Name: name}
	var isUp, isDown bool
	n.Up, isUp = numberOf(up)
	n.Down, isDown = numberOf(down)
	if !isUp || !isDown || !isRight(n) {
		return api.Node{}, false
	}
	return copied(n), true
}

// numberOf is the number whose decimal digits, without needless noughts, a text is.
func numberOf(s string) (uint64, bool) {
	n, err := strconv.ParseUint(s, 10, 64)
	return n, err == nil && strconv.FormatUint(n, 10) == s
}
