package load_test

import (
	"math"
	"math/rand"
	"regexp"
	"slices"
	"strconv"
	"strings"
	"testing"

	"abacus/api"
	"abacus/load"
)

func prints(t *testing.T, l []int, want string, why api.Errno) {
	t.Helper()
	if got, no := load.Print(l); got != want || no != why {
		t.Errorf("Print(%.100v): %.100q, error %d, want %.100q, error %d", l, got, no, want, why)
	}
}

func parses(t *testing.T, s string, why api.Errno, at int, want ...int) {
	t.Helper()
	if got, no, place := load.Parse(s); !slices.Equal(got, want) || no != why || place != at {
		t.Errorf("Parse(%.100q): %.100v, error %d at %d, want %.100v, error %d at %d", s, got, no, place, want, why, at)
	}
}

func TestPrint(t *testing.T) { // 28.2
	prints(t, nil, "", api.OK)
	prints(t, []int{}, "", api.OK)
	prints(t, []int{0}, "0", api.OK)
	prints(t, []int{63}, "63", api.OK)
	prints(t, []int{0, 1, 1}, "0 1 1", api.OK)
	prints(t, []int{9, 10, 0, 63, 5}, "9 10 0 63 5", api.OK)
	for _, n := range []int{-1, api.MaxWorkers, math.MinInt, math.MaxInt} {
		prints(t, []int{n}, "", api.ErrRange)
		prints(t, []int{0, 1, n, 2}, "", api.ErrRange)
		prints(t, append(make([]int, api.MaxSteps+5), n), "", api.ErrRange) // and too many
	}
	prints(t, make([]int, api.MaxSteps), strings.Repeat("0 ", api.MaxSteps-1)+"0", api.OK)
	prints(t, make([]int, api.MaxSteps+1), "", api.ErrMany)
}

func TestParse(t *testing.T) { // 28.2
	parses(t, "", api.OK, 0)
	parses(t, "0", api.OK, 0, 0)
	parses(t, "0 1 1", api.OK, 0, 0, 1, 1)
	parses(t, "63 10 9 0", api.OK, 0, 63, 10, 9, 0)
	for s, at := range map[string]int{
		"0  1": 2, "0 ": 2, "01": 1, "x": 0, " ": 0, " 0": 0, "0 x": 2, "0x": 1, "00": 1, "6 07": 3, "6 00": 3, "-1": 0, "0 -1": 2, "+1": 0, "1,2": 1, "1\\t2": 1, "1\\n": 1, "1\\x002": 1, "1 2 ": 4, "63x": 2, "63 x": 3, "٣": 0, "1٣": 1,
		"\\xff": 0, "1.5": 1, "1e1": 1, "0 1\\n": 3, "0x 64": 1, "01 64": 1, "0  64": 2, "x64": 0,
	} {
		parses(t, unescaped(s), api.ErrSchedule, at)
	}
	for s, at := range map[string]int{
		"64": 0, "100": 0, "640": 0, "64x": 0, "64 x": 0, "64 ": 0, "64  1": 0, "0 64": 2, "0 1 99 1": 4, "1 64 65": 2, "1 64 01": 2, "9223372036854775807": 0, "9223372036854775808": 0, "18446744073709551616": 0, "5 18446744073709551617": 2,
		"1 " + strings.Repeat("9", 1000): 2, "4611686018427387905": 0, "6400000000000000000000000000000000000000x": 0,
	} {
		parses(t, s, api.ErrRange, at)
	}
}

// unescaped is a text in which signs are written as in Go.
func unescaped(s string) string {
	out, err := strconv.Unquote(`"` + s + `"`)
	if err != nil {
		panic(err)
	}
	return out
}

func TestParseOfTheMost(t *testing.T) { // 28.2
	most := strings.Repeat("7 ", api.MaxSteps-1) + "7"
	end := len(most)
	parses(t, most, api.OK, 0, slices.Repeat([]int{7}, api.MaxSteps)...)
	for rest, at := range map[string]int{" 0": end + 1, " 63": end + 1, " 64": end + 1, " 00": end + 1, " 0x": end + 1, " 0 ": end + 1, " 9999999999999999999999": end + 1, " 1 64 x": end + 1} {
		parses(t, most+rest, api.ErrMany, at)
	}
	for rest, at := range map[string]int{" ": end + 1, " x": end + 1, "x": end, "  1": end + 1} {
		parses(t, most+rest, api.ErrSchedule, at)
	}
	parses(t, "64 "+most, api.ErrRange, 0)
	parses(t, "7 64 "+most, api.ErrRange, 2)
	parses(t, "07 "+most, api.ErrSchedule, 1)
	parses(t, strings.Repeat("7 ", api.MaxSteps-1)+"64 7", api.ErrRange, end-1)
	parses(t, strings.Repeat("7 ", api.MaxSteps-1)+"64", api.ErrRange, end-1)
}

// viable says which texts some schedule's text begins with; number, what a number is.
var (
	viable = regexp.MustCompile(`^(?:(?:0|[1-9][0-9]*)(?: (?:0|[1-9][0-9]*))* ?)?$`)
	number = regexp.MustCompile(`[0-9]+`)
)

// read is what Parse answers, told by the beginnings of a text.
func read(s string) ([]int, api.Errno, int) {
	bad := len(s)
	for end := range len(s) + 1 {
		if !viable.MatchString(s[:end]) {
			bad = end - 1
			break
		}
	}
	var l []int
	for _, at := range number.FindAllStringIndex(s[:bad], -1) {
		end := at[1]
		for bad == at[1] && end < len(s) && s[end] >= '0' && s[end] <= '9' && s[at[0]] != '0' {
			end++
		}
		n, err := strconv.Atoi(s[at[0]:end])
		if err != nil || n > 63 {
			return nil, api.ErrRange, at[0]
		}
		l = append(l, n)
	}
	if bad < len(s) || strings.HasSuffix(s, " ") {
		return nil, api.ErrSchedule, bad
	}
	return l, api.OK, 0
}

func TestParseOfAllShortTexts(t *testing.T) { // 28.2
	const signs = "0146 x"
	var all func(s string)
	all = func(s string) {
		want, why, at := read(s)
		parses(t, s, why, at, want...)
		for i := range signs {
			if len(s) < 6 {
				all(s + signs[i:i+1])
			}
		}
	}
	all("")
}

func TestThereAndBack(t *testing.T) { // 28.10
	r := rand.New(rand.NewSource(3))
	for range 500 {
		l, _ := load.Random(r.Uint64(), 1+r.Intn(64), r.Intn(50))
		s, why := load.Print(l)
		if why != api.OK {
			t.Fatal(l, why)
		}
		parses(t, s, api.OK, 0, l...)
		if len(s) > 0 {
			i := r.Intn(len(s))
			s = s[:i] + string("0123456789 x"[r.Intn(12)]) + s[i+r.Intn(2):]
			want, no, at := read(s)
			parses(t, s, no, at, want...)
		}
	}
}
