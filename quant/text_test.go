package quant_test

import (
	"math/big"
	"math/rand"
	"regexp"
	"slices"
	"strconv"
	"strings"
	"testing"

	"abacus/api"
	"abacus/quant"
)

func number(n int64) string {
	return strconv.FormatInt(n, 10)
}

func parses(t *testing.T, text string, want bool) {
	t.Helper()
	s, why := quant.Parse(text)
	switch {
	case want && (why != api.OK || s == nil || s.Print() != text):
		t.Errorf("Parse(%.80q): error %d, %.80q", text, why, s.Print())
	case !want && (why != api.ErrSummary || s != nil):
		t.Errorf("Parse(%.80q): %v, error %d", text, s, why)
	}
}

func TestParse(t *testing.T) { // 11.4, example 3
	for _, text := range []string{
		"2 0", "3 0", "1048576 0", "2 1 5,1,0", "2 3 1,1,0 5,2,0", "1048575 1 -1,1,0",
		"2 2 -9223372036854775808,1,0 9223372036854775807,1,0",
		"2 3 1,1,0 1,1,0 1,1,0",
		"2 4 1,1,0 2,1,3 3,2,0", // just the room
		"2 4 1,1,0 2,3,0",
		"5 3 1,1,0 2,1,0 3,1,0",                                     // the room is 1, as 6 / 5
		"1048576 3 1,1,0 2,1,0 3,1,0",                               // and 1 at least
		"2 1099511627776 0,1099511627776,0",                         // 2^40
		"2 1099511627778 0,1,0 1,1,1099511627776 2,1099511627776,0", // a D of 2^40
	} {
		parses(t, text, true)
	}
	for _, text := range []string{
		"", " ", "2", "2 ", " 2 0", "2 0 ", "2  0", "2 0\n", "2\t0", "2,0", "two 0", "2 none",
		"1 0", "0 0", "-2 0", "1048577 0", "02 0", "+2 0", "2 00", "2 -0", "-0 0", "2 +0", "2 0x0", "2_0 0", "2 1_0", "99999999999999999999 0",
		"2 1", "2 0 1,1,0", "2 -1 1,1,0", // rows just if there is a count
		"2 1 5,1", "2 1 5", "2 1 5,1,0,0", "2 1 5,1,0 ", "2 1  5,1,0", "2 1 5,1,0,", "2 1 ,1,0", "2 1 5,,0", "2 1 5,1,", "2 1 5 1 0", "2 1 5;1;0",
		"2 1 05,1,0", "2 1 -0,1,0", "2 1 +5,1,0", "2 1 --5,1,0", "2 1 5,01,0", "2 1 5,1,00", "2 1 5,+1,0", "2 1 5,1,-0", "2 1 5,1,+0", "2 1 5.0,1,0",
		"2 1 9223372036854775808,1,0", "2 1 -9223372036854775809,1,0",
		"2 0 5,0,0", "2 1 5,1,0 6,0,0", "2 1 6,-1,0 7,2,0", "2 3 1,1,0 2,1,-1 3,1,0", // G at least 1, D at least 0
		"2 3 2,1,0 1,2,0", "2 3 1,1,0 3,1,0 2,1,0", // Values fall
		"2 4 1,1,0 5,2,0", "2 2 1,1,0 5,2,0", // they come to 3
		"2 3 1,1,0 5,2,1", "2 3 1,1,1 5,2,0", "2 1 5,1,1", // D at the ends
		"2 4 1,1,0 2,1,4 3,2,0", "2 4 1,1,0 2,2,3 3,1,0", // beyond the room
		"5 5 1,1,0 2,3,0 3,1,0", "5 3 1,1,0 2,1,1 3,1,0", "4 3 1,1,0 2,2,0", "1048576 2 1,2,0",
		"2 1099511627777 0,1099511627777,0",                                           // a G beyond 2^40
		"2 2199023255554 0,1,0 1,1,1099511627777 2,1099511627776,0 3,1099511627776,0", // a D beyond 2^40
		"2 9223372036854775807 0,9223372036854775807,0",
		"2 2305843009213693952 0,1099511627776,0",
		"2 1\n5,1,0", "2 1 5,1,0\x00", "2 1 ５,1,0",
	} {
		parses(t, text, false)
	}
}

func TestParseGreatCount(t *testing.T) { // 11.4
	parses(t, great(1<<60), true)
	parses(t, great(1<<60+1), false)
}

var textForm = regexp.MustCompile(`^(0|[1-9][0-9]*) (0|[1-9][0-9]*)((?: (?:0|-?[1-9][0-9]*),(?:0|[1-9][0-9]*),(?:0|[1-9][0-9]*))*)$`)

// right tells whether a text is one of a summary, by big numbers.
func right(text string) bool {
	form := textForm.FindStringSubmatch(text)
	if form == nil {
		return false
	}
	part, count := whole(form[1]), whole(form[2])
	if part.Cmp(whole("2")) < 0 || part.Cmp(whole("1048576")) > 0 || count.Cmp(whole("1152921504606846976")) > 0 {
		return false
	}
	room := new(big.Int).Lsh(count, 1)
	room.Div(room, part)
	if room.Sign() == 0 {
		room.SetInt64(1)
	}
	left := new(big.Int).Set(count)
	rows := strings.Fields(form[3])
	least, most := whole("-9223372036854775808"), whole("9223372036854775807")
	for i, row := range rows {
		w := strings.Split(row, ",")
		value, g, d := whole(w[0]), whole(w[1]), whole(w[2])
		both := new(big.Int).Add(g, d)
		if value.Cmp(least) < 0 || value.Cmp(most) > 0 || g.Sign() < 1 || g.Cmp(whole("1099511627776")) > 0 || d.Cmp(whole("1099511627776")) > 0 || both.Cmp(room) > 0 {
			return false
		}
		if (i == 0 || i == len(rows)-1) && d.Sign() != 0 {
			return false
		}
		least = value
		left.Sub(left, g)
	}
	return left.Sign() == 0
}

func whole(text string) *big.Int {
	n, is := new(big.Int).SetString(text, 10)
	if !is {
		panic("no number: " + text)
	}
	return n
}

func TestTextsOfAny(t *testing.T) { // 11.4, P13
	r := rand.New(rand.NewSource(4))
	some := 0
	for range 4000 {
		part := []int{2, 3, 5, 20, api.MaxPart}[r.Intn(5)]
		s := made(t, part)
		for _, x := range someValues(r, r.Intn(30)) {
			s.Insert(x)
		}
		text := s.Print()
		if !right(text) {
			t.Fatalf("written is %q", text)
		}
		parses(t, text, true)
		if again, _ := quant.Parse(text); again.Count() != s.Count() || !slices.Equal(again.Tuples(), s.Tuples()) {
			t.Fatalf("%q is not read as it was written", text)
		}
		changed := []byte(text)
		for range 1 + r.Intn(2) {
			i, c := r.Intn(len(changed)), "0123456789 ,-"[r.Intn(13)]
			switch r.Intn(3) {
			case 0:
				changed[i] = c
			case 1:
				changed = slices.Insert(changed, i, c)
			case 2:
				changed = append(slices.Delete(changed, i, i+1), '0')
			}
		}
		if right(string(changed)) {
			some++
		}
		parses(t, string(changed), right(string(changed)))
		if t.Failed() {
			t.FailNow()
		}
	}
	if some < 100 {
		t.Error("of the changed texts too few are right:", some)
	}
}

// What was read goes on as what was written would have.
func TestGoesOn(t *testing.T) { // 11.4, P4, P13
	r := rand.New(rand.NewSource(5))
	for range 300 {
		s := made(t, 2+r.Intn(12))
		for _, x := range someValues(r, r.Intn(60)) {
			s.Insert(x)
		}
		text := s.Print()
		a, _ := quant.Parse(text)
		b, _ := quant.Parse(text)
		for _, x := range someValues(r, 40) {
			s.Insert(x)
			a.Insert(x)
		}
		if a.Print() != s.Print() || b.Print() != text {
			t.Fatalf("%q goes on as %q, and as %q; beside it %q", text, s.Print(), a.Print(), b.Print())
		}
	}
}
