package pairs_test

import (
	"fmt"
	"math/rand"
	"slices"
	"strings"
	"testing"

	"abacus/pairs"
)

// item has a key and a number, that tells a kept one from a zero value.
type item struct {
	key string
	n   int
}

func keyOfItem(x item) string { return x.key }

func keyOfText(s string) string { return s }

// texts tells pairs as words; a list is the keys, with a blank between.
func texts(a, b string) string {
	var items []item
	for _, key := range strings.Fields(a) {
		items = append(items, item{key, 1})
	}
	var words []string
	for x, y := range pairs.Of(items, strings.Fields(b), keyOfItem, keyOfText) {
		words = append(words, fmt.Sprintf("%s%d/%s", x.key, x.n, y))
	}
	return strings.Join(words, " ")
}

func TestOf(t *testing.T) {
	for _, x := range []struct{ a, b, want string }{
		{"", "", ""},
		{"a", "", "a1/"},
		{"", "a", "0/a"},
		{"a", "a", "a1/a"},
		{"a b c", "a b c", "a1/a b1/b c1/c"},
		{"a c e", "b d f", "a1/ 0/b c1/ 0/d e1/ 0/f"},
		{"b d f", "a c e", "0/a b1/ 0/c d1/ 0/e f1/"},
		{"a b", "c d", "a1/ b1/ 0/c 0/d"},
		{"c d", "a b", "0/a 0/b c1/ d1/"},
		{"a B", "a", "a1/a B1/"},
		{"A a a0 aa", "a aA aa b", "A1/ a1/a a01/ 0/aA aa1/aa 0/b"},
	} {
		if got := texts(x.a, x.b); got != x.want {
			t.Errorf("of %q and %q: %q, want %q", x.a, x.b, got, x.want)
		}
	}
}

func TestOfAny(t *testing.T) {
	r := rand.New(rand.NewSource(1))
	some := func() []string {
		var l []string
		for _, key := range []string{"a", "a0", "aa", "b", "ba", "c", "\xff"} {
			if r.Intn(2) == 0 {
				l = append(l, key)
			}
		}
		return l
	}
	for range 2000 {
		a, b := some(), some()
		var ofA, ofB, keys []string
		for x, y := range pairs.Of(a, b, keyOfText, keyOfText) {
			if x != "" {
				ofA = append(ofA, x)
			}
			if y != "" {
				ofB = append(ofB, y)
			}
			if x != "" && y != "" && x != y || x+y == "" {
				t.Fatalf("of %q and %q: a pair of %q and %q", a, b, x, y)
			}
			keys = append(keys, max(x, y))
		}
		want := append(slices.Clone(a), b...)
		slices.Sort(want)
		if want = slices.Compact(want); !slices.Equal(ofA, a) || !slices.Equal(ofB, b) || !slices.Equal(keys, want) {
			t.Fatalf("of %q and %q: %q, %q, by %q", a, b, ofA, ofB, keys)
		}
	}
}

func TestOfEndsAndBeginsAnew(t *testing.T) {
	all := pairs.Of([]string{"a", "b"}, []string{"b", "c"}, keyOfText, keyOfText)
	for range 2 {
		n := 0
		for x, y := range all {
			n++
			if x == "b" && y == "b" {
				break
			}
		}
		if n != 2 {
			t.Error("so many pairs up to the second one:", n)
		}
	}
}

func TestByAnyOrder(t *testing.T) {
	falling := func(x int, y *item) int { return y.n - x }
	var words []string
	for x, y := range pairs.By([]int{9, 7, 2}, []*item{{"a", 8}, {"b", 7}, {"c", 1}}, falling) {
		key := "none"
		if y != nil {
			key = y.key
		}
		words = append(words, fmt.Sprintf("%d %s", x, key))
	}
	if got := strings.Join(words, " "); got != "9 none 0 a 7 b 2 none 0 c" {
		t.Error("falling lists:", got)
	}
}
