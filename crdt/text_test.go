package crdt_test

import (
	"fmt"
	"math/rand"
	"regexp"
	"slices"
	"strconv"
	"strings"
	"testing"

	"abacus/api"
	"abacus/crdt"
)

func prints(t *testing.T, l []api.Node, want string) {
	t.Helper()
	if got, why := crdt.Print(l); got != want || why != api.OK {
		t.Errorf("Print(%v): %q, error %d, want %q", l, got, why, want)
	}
	parses(t, want, api.OK, l...)
}

func parses(t *testing.T, s string, why api.Errno, want ...api.Node) {
	t.Helper()
	if got, e := crdt.Parse(s); !slices.Equal(got, want) || e != why {
		t.Errorf("Parse(%.200q): %v, error %d, want %v, error %d", s, got, e, want, why)
	}
}

// text tells a state by the document's words.
func text(l []api.Node) string {
	s := ""
	for _, n := range l {
		s += fmt.Sprintf("%s %d %d\n", n.Name, n.Up, n.Down)
	}
	return s
}

func TestPrint(t *testing.T) { // 23.2, P13
	prints(t, nil, "")
	prints(t, state("a 1 0"), "a 1 0\n")
	prints(t, state("_9 0 72057594037927936, b 72057594037927936 1"), "_9 0 72057594037927936\nb 72057594037927936 1\n")
	prints(t, []api.Node{{Name: long, Up: 10, Down: 100}}, long+" 10 100\n")
	most := nodes(api.MaxNodes)
	prints(t, most, text(most))
	for i := range most {
		most[i] = api.Node{Name: long[:61] + strconv.Itoa(100+i), Up: api.MaxUp, Down: api.MaxUp}
	}
	prints(t, most, text(most))
	r := rand.New(rand.NewSource(2))
	for range 5000 {
		l := some(r)
		prints(t, l, text(l))
	}
}

func TestParseRefuses(t *testing.T) { // 23.2
	for _, s := range []string{
		"\n", " ", "a", "a\n", "a 1", "a 1\n", "a 1 ", "a 1 0", "a 1 0 ", "a 1 \n", "a  0\n", " 1 0\n", "1 0\n", "1 1 0\n",
		"\na 1 0\n", "a 1 0\n\n", "a 1 0\n\nb 1 0\n", "a 1 0\r\n", "a 1 0\r", "a 1 0\x00\n", "a 1 0\n\x00", "a 1 0\n ", "a 1 0\nb",
		" a 1 0\n", "a  1 0\n", "a 1  0\n", "a 1 0 \n", "a\t1 0\n", "a 1\t0\n", "a 1 0\t\n", "a\u00a01 0\n", "a 1 0 0\n", "a 1 0 b\n", "a 1,0\n",
		"a 01 0\n", "a 1 00\n", "a 00 1\n", "a 1 01\n", "a +1 0\n", "a 1 +0\n", "a -1 0\n", "a 1 -0\n", "a 1_0 0\n", "a 0x1 0\n", "a 1.0 0\n", "a 1e3 0\n", "a 1 o\n", "a \u0661 0\n", "a inf 0\n",
		"a 72057594037927937 0\n", "a 0 72057594037927937\n", "a 18446744073709551615 0\n", "a 18446744073709551616 0\n", "a 18446744073709551617 0\n", "a 1 18446744073709551616\n", "a 99999999999999999999999999 0\n",
		"a 0 0\n", "a 1 0\nb 0 0\n", "a 1 0\na 1 0\n", "b 1 0\na 1 0\n", "a 1 0\nB 1 0\n", "a2 1 0\na10 1 0\n", "a 1 0\nb 1 0\na 2 0\n",
		"9 1 0\n", "a-b 1 0\n", "\xff 1 0\n", "\u00e9 1 0\n", "{} 1 0\n", "\"a\" 1 0\n", long + "x 1 0\n", "a 1 0\n" + long + "x 1 0\n",
		"a 1 0,b 1 0\n", "a 1 0;", "a 1 0\\n", "\ufeffa 1 0\n",
		text(nodes(api.MaxNodes + 1)), text(nodes(api.MaxNodes)) + "x", text(nodes(api.MaxNodes)) + "\n", text(nodes(2 * api.MaxNodes)),
		strings.Repeat("a", 1<<20), strings.Repeat("a 1 0\n", 1<<16), "a " + strings.Repeat("1", 1<<20) + " 0\n", strings.Repeat("\n", 1<<16), strings.Repeat(" ", 1<<16),
	} {
		parses(t, s, api.ErrState)
	}
}

var lineOnly = regexp.MustCompile(`\A([A-Za-z_][A-Za-z0-9_]{0,63}) (0|[1-9][0-9]{0,17}) (0|[1-9][0-9]{0,17})\z`)

// read reads a text by the document's words, in another way: false, if it is no state's.
func read(s string) ([]api.Node, bool) {
	if s == "" {
		return nil, true
	}
	if !strings.HasSuffix(s, "\n") {
		return nil, false
	}
	var l []api.Node
	for _, line := range strings.Split(s[:len(s)-1], "\n") {
		words := lineOnly.FindStringSubmatch(line)
		if words == nil {
			return nil, false
		}
		up, _ := strconv.ParseUint(words[2], 10, 64)
		down, _ := strconv.ParseUint(words[3], 10, 64)
		l = append(l, api.Node{Name: words[1], Up: up, Down: down})
	}
	if !isState(l) {
		return nil, false
	}
	return l, true
}

// reads holds a text against how it is read in another way: whether it is a state's.
func reads(t *testing.T, s string) bool {
	t.Helper()
	want, is := read(s)
	if !is {
		parses(t, s, api.ErrState)
		return false
	}
	prints(t, want, s)
	return true
}

// Of each text that one byte parts from a state's, whichever byte and wherever.
func TestParseOfWhatIsNearlyAState(t *testing.T) { // 23.2
	some := 0
	for _, s := range []string{
		"a 1 0\n", "a 10 0\nb1 2 30\n", "A 0 1\n_ 9 9\na 1 0\n", "b 72057594037927936 72057594037927935\n",
		long[:63] + " 1 0\n", long + " 1 0\n",
	} {
		for i := 0; i <= len(s); i++ {
			for c := range 256 {
				if reads(t, s[:i]+string([]byte{byte(c)})+s[i:]) {
					some++
				}
				if i < len(s) && reads(t, s[:i]+string([]byte{byte(c)})+s[i+1:]) {
					some++
				}
			}
			if i < len(s) {
				reads(t, s[:i]+s[i+1:])
			}
			reads(t, s[:i])
			reads(t, s[i:])
		}
	}
	if some < 1000 {
		t.Error("so few of them are states:", some)
	}
}

func TestParseOfAny(t *testing.T) { // 23.2: of pieces put together by chance
	pieces := []string{"a", "b", "a", "b", "_", "9", " ", " ", " ", " ", "1", "1", "0", "0", "2", "\n", "\n", "\n", "a 1 0\n", "b 0 1\n", " 1 0\n", "\r", "-", "72057594037927936"}
	r := rand.New(rand.NewSource(9))
	some := 0
	for range 300000 {
		s := ""
		for range 1 + r.Intn(9) {
			s += pieces[r.Intn(len(pieces))]
		}
		if reads(t, s) {
			some++
		}
	}
	if some < 1000 {
		t.Error("so few of them are states:", some)
	}
}
