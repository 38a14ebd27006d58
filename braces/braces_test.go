package braces_test

import (
	"strings"
	"testing"

	"abacus/braces"
)

func TestEnd(t *testing.T) {
	for s, want := range map[string]int{
		"":                     0,
		"{":                    0,
		"}":                    1,
		"{}":                   2,
		"{}}":                  2,
		"{{}}":                 3,
		`{a="x"} 5`:            7,
		`{a="}"}x`:             7,
		`{a="}`:                0,
		`{a="}"`:               0,
		`{a="\"}"}`:            9,
		`{a="\\"}"}`:           8,
		`{a="\`:                0,
		`{a="\}`:               0,
		`{\"}`:                 0, // a backslash that stands in no quotes goes with nothing
		`{\}`:                  3,
		`{""}`:                 4,
		`{"""}"}`:              7,
		"{\n\xff\x00}":         5,
		`{a="é}"}`:             9,
		`{a="x",b="}{",c=}}"}`: 17,
	} {
		if got := braces.End(s); got != want {
			t.Errorf("End(%q): %d, want %d", s, got, want)
		}
	}
	long := strings.Repeat(`"}"\`, 1<<18)
	if got := braces.End(long + "}"); got != len(long)+1 {
		t.Error("of a long text:", got)
	}
}
