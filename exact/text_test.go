package exact_test

import (
	"math/big"
	"math/rand"
	"regexp"
	"strings"
	"testing"

	"abacus/api"
	"abacus/exact"
)

// form is how a sum's text is formed, but for what the count is to be.
var form = regexp.MustCompile(`^(0|-?[1-9a-f][0-9a-f]*)( \+inf)?( -inf)?( nan)?( -0)? (0|[1-9][0-9]*)$`)

// right tells whether a text is one of a sum, as the document says it.
func right(text string) bool {
	parts := form.FindStringSubmatch(text)
	if parts == nil {
		return false
	}
	count, _ := new(big.Int).SetString(parts[6], 10)
	beside := parts[1] != "0" || parts[2] != "" || parts[3] != "" || parts[4] != ""
	switch {
	case count.BitLen() > 64, count.Sign() == 0 && (beside || parts[5] != ""), parts[5] != "" && beside:
		return false
	}
	return true
}

// reads holds Parse of a text against right; what is read is the text again.
func reads(t *testing.T, text string) bool {
	t.Helper()
	s, why := exact.Parse(text)
	if !right(text) {
		if s != nil || why != api.ErrSum {
			t.Errorf("Parse(%q): %v, error %d", text, s.Text(), why)
		}
		return false
	}
	if why != api.OK || s.Text() != text {
		t.Errorf("Parse(%q): %q, error %d", text, s.Text(), why)
	}
	return true
}

func TestParse(t *testing.T) { // 9.3, 9.11, and example 4
	for _, text := range []string{
		"0 0", "0 1", "0 -0 1", "0 +inf 1", "0 -inf 1", "0 nan 1", "5 1", "-5 1", "5 +inf -inf nan 7", "0 +inf nan 2", "0 -inf nan 2", "-1 nan 18446744073709551615",
		"0123456789abcdef 1", "123456789abcdef0 1", "-fedcba9876543210 10", "1" + strings.Repeat("0", 5000) + " 3", "-" + strings.Repeat("f", 5000) + " 3",
		"0 -0 18446744073709551615", "8000000000000000 1", "-8000000000000000 1", "-8000000000000001 1", "7fffffffffffffff 1", "10000000000000000 1", "-ffffffffffffffff 1", "-10000000000000000 1",

		"", " ", "0", "0 ", " 0", "0  0", " 0 0", "0 0 ", "0 0\n", "0\t0", "00 0", "1 0", "g 1", "-0 1", "-0 0", "- 1", "-00 1", "01 1", "-01 1", "--1 1", "+1 1", "A 1", "1F 1", "0x1 1", "1_0 1", "1. 1", "5", "5 ", "é 1", "5 1",
		"0 00", "0 01", "0 +1", "0 -1", "0 a", "0 1_0", "0 18446744073709551616", "0 99999999999999999999", "0 0x1", "0 1 1", "0 1 0",
		"0 +inf 0", "0 -inf 0", "0 nan 0", "0 -0 0", "-5 0", "0 +inf -0 2", "0 -inf -0 2", "0 nan -0 2", "5 -0 2", "0 -0 nan 2", "0 -0 -0 2",
		"0 -inf +inf 2", "0 nan +inf 2", "0 nan -inf 2", "0 +inf +inf 2", "0 nan nan 2", "0 inf 2", "0 +Inf 2", "0 NaN 2", "0 +inf", "0 nan", "0 +inf ", "0 +inf2", "0 +inf  2", "0  +inf 2", "+inf 1", "0 0 1", "0 -0", "0 1 nan",
		strings.Repeat(" ", 1000), strings.Repeat("0", 1000), "0" + strings.Repeat(" nan", 1000) + " 1",
	} {
		reads(t, text)
	}
	for _, text := range []string{"0 0", "5 1", "0 -0 1"} {
		if !right(text) {
			t.Errorf("%q is right", text)
		}
	}
	for _, text := range []string{"00 0", "1 0", "g 1"} {
		if s, why := exact.Parse(text); s != nil || why != api.ErrSum {
			t.Errorf("Parse(%q): error %d", text, why)
		}
	}
	s := parsed(t, "5 1")
	if s.Value() != 5*least || s.Count() != 1 {
		t.Error("5 1:", s.Value(), s.Count())
	}
}

// What was read is gone on with as if all had been added to it.
func TestParsedGoesOn(t *testing.T) { // 9.3, 9.11
	r := rand.New(rand.NewSource(6))
	for range 3000 {
		l := someFloats(r, r.Intn(5))
		for range r.Intn(3) {
			l = append(l, []float64{inf, -inf, nan, 0, minus, minus, minus}[r.Intn(7)])
		}
		want := shadowOf(l...)
		s := parsed(t, of(l...).Text())
		agree(t, l, s, want)
		for _, x := range append(someFloats(r, 2), minus, 0) {
			s.Add(x)
			want.add(x)
			agree(t, l, s, want)
		}
		if t.Failed() {
			t.FailNow()
		}
	}
}

func TestTextOfAnySize(t *testing.T) { // 9.3, 9.11
	r := rand.New(rand.NewSource(7))
	n := new(big.Int)
	for size := range 700 {
		for _, d := range []int64{-1, 0, 1} {
			n.Lsh(big.NewInt(1), uint(size))
			n.Add(n, big.NewInt(d))
			reads(t, n.Text(16)+" 7")
			reads(t, n.Neg(n).Text(16)+" 7")
		}
		n.Rand(r, n.Lsh(big.NewInt(1), uint(size)))
		reads(t, n.Text(16)+" 1")
	}
}

// Texts that are nearly right: none but those of the form is read.
func TestNearlyRight(t *testing.T) { // 9.3
	r := rand.New(rand.NewSource(8))
	parts := []string{" ", " ", " ", "0", "1", "f", "a5", "-", "+inf", "-inf", "nan", "-0", "18446744073709551615", "G", "inf", "+"}
	count := map[bool]int{}
	for range 60000 {
		text := ""
		switch r.Intn(3) {
		case 0:
			for range 1 + r.Intn(9) {
				text += parts[r.Intn(len(parts))]
			}
		case 1:
			words := make([]string, 2+r.Intn(4))
			for i := range words {
				words[i] = parts[3+r.Intn(len(parts)-3)]
			}
			text = strings.Join(words, " ")
		case 2:
			text = of([][]float64{nil, {1}, {-1, inf}, {minus}, {inf, -inf, nan}, {0, 0}}[r.Intn(6)]...).Text()
			at := r.Intn(len(text))
			text = text[:at] + parts[r.Intn(len(parts))] + text[at+r.Intn(2):]
		}
		count[reads(t, text)]++
	}
	if count[true] < 100 || count[false] < 100 {
		t.Error("texts that are right, and not:", count)
	}
}
