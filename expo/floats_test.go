package expo_test

import (
	"math"
	"math/big"
	"math/rand"
	"regexp"
	"strings"
	"testing"

	"abacus/expo"
)

func TestFloat(t *testing.T) { // 15.1, example 1
	for want, x := range map[string]float64{
		"0.1": 0.1, "1e+06": 1000000, "100000": 100000, "-0": math.Copysign(0, -1), "0": 0,
		"NaN": math.NaN(), "+Inf": math.Inf(1), "-Inf": math.Inf(-1),
		"999999": 999999, "1.000001e+06": 1000001, "999999.5": 999999.5, "-1e+06": -1000000, "-999999": -999999,
		"0.0001": 0.0001, "9.999e-05": 0.00009999, "1e-05": 0.00001, "-0.0001": -0.0001,
		"5e-324": math.SmallestNonzeroFloat64, "1.7976931348623157e+308": math.MaxFloat64, "-1.7976931348623157e+308": -math.MaxFloat64,
		"9.007199254740992e+15": 1 << 53, "1e+21": 1e21, "0.30000000000000004": 0.1 + 0.2 + 1.0/(1<<54), "3": 3, "2.5": 2.5, "1e+100": 1e100,
	} {
		if got := expo.Float(x); got != want {
			t.Errorf("Float(%g): %q, want %q", x, got, want)
		}
	}
	for _, bits := range []uint64{0x7ff0000000000001, 0x7ff8000000000000, 0xfff8000000000001, 0xffffffffffffffff} {
		if got := expo.Float(math.Float64frombits(bits)); got != "NaN" {
			t.Errorf("Float of the bits %x: %q", bits, got)
		}
	}
}

func TestParseFloat(t *testing.T) { // 15.1, example 1
	zeros := strings.Repeat("0", 63)
	for s, want := range map[string]float64{
		"0.1": 0.1, "1e999": math.Inf(1), "-1e999": math.Inf(-1), "inf": math.Inf(1), "-inf": math.Inf(-1), "+Inf": math.Inf(1), "Infinity": math.Inf(1), "-INFINITY": math.Inf(-1), "iNfInItY": math.Inf(1),
		"1.7976931348623159e308": math.Inf(1), "1.7976931348623157e308": math.MaxFloat64, "1.7976931348623158e308": math.MaxFloat64,
		"0": 0, "-0": math.Copysign(0, -1), "+0": 0, "00": 0, "01": 1, "+5": 5, "5.": 5, ".5": 0.5, "-.5e1": -5, "1E2": 100, "1e+2": 100, "1e-2": 0.01, "1e02": 100,
		"1e-999": 0, "-1e-999": math.Copysign(0, -1), "2e-324": 0, "3e-324": math.SmallestNonzeroFloat64,
		zeros + "7": 7, "9007199254740993": 1 << 53,
	} {
		if x, is := expo.ParseFloat(s); !is || math.Float64bits(x) != math.Float64bits(want) {
			t.Errorf("ParseFloat(%q): %g, %v, want %g", s, x, is, want)
		}
	}
	for _, s := range []string{"NaN", "nan", "NAN", "nAn"} {
		if x, is := expo.ParseFloat(s); !is || math.Float64bits(x) != 0x7ff8000000000001 {
			t.Errorf("ParseFloat(%q): the bits %x, %v", s, math.Float64bits(x), is)
		}
	}
	for _, s := range []string{
		"", "0x1p3", "0x10", "1_000", "1e", "e1", "1e+", "+", "-", ".", "+-1", "--1", "1-", "1.2.3", "1e1.5", "1e5e5", " 1", "1 ", "1\t", "1\n", "1,5", "one", "i", "in", "infi", "infinit", "infinityy", "+nan", "-nan", "nanf", "tan", "yes", "\x00", "\xff", "１", "1é",
		zeros + "07", zeros + "7.", strings.Repeat("1", 65), strings.Repeat("1", 1000),
	} {
		if x, is := expo.ParseFloat(s); is || math.Float64bits(x) != 0 {
			t.Errorf("ParseFloat(%q): %g, %v", s, x, is)
		}
	}
	if x, is := expo.ParseFloat(strings.Repeat("1", 64)); !is || x != 1.1111111111111111e63 {
		t.Errorf("of 64 digits: %g, %v", x, is)
	}
}

// A text has the fewest digits: with one less no text says the float.
func TestFewestDigits(t *testing.T) { // 15.1
	r := rand.New(rand.NewSource(1))
	form := regexp.MustCompile(`^-?([0-9]+)(?:\.([0-9]+))?(?:e([+-])([0-9]{2,}))?$`)
	for range 20000 {
		x := someFloat(r)
		if x != x || math.IsInf(x, 0) || x == 0 {
			continue
		}
		s := expo.Float(x)
		w := form.FindStringSubmatch(s)
		if w == nil {
			t.Fatalf("Float(%b): %q", x, s)
		}
		small := math.Abs(x) < 1e-4 || math.Abs(x) >= 1e6
		if small != (w[3] != "") || small && len(w[1]) != 1 || strings.HasSuffix(w[2], "0") {
			t.Fatalf("Float(%b): %q", x, s)
		}
		digits := len(strings.Trim(w[1]+w[2], "0"))
		if digits == 1 {
			continue
		}
		exact := new(big.Float).SetPrec(2000).SetFloat64(x)
		short, _, _ := big.ParseFloat(exact.Text('e', digits-2), 10, 2000, big.ToNearestEven)
		if y, _ := short.Float64(); y == x {
			t.Fatalf("Float(%b): %q, but fewer digits say it: %s", x, s, exact.Text('e', digits-2))
		}
	}
}

func TestFloatThereAndBack(t *testing.T) { // 15.6, P13
	r := rand.New(rand.NewSource(2))
	for range 100000 {
		x := someFloat(r)
		want := math.Float64bits(x)
		if x != x {
			want = 0x7ff8000000000001
		}
		y, is := expo.ParseFloat(expo.Float(x))
		if !is || math.Float64bits(y) != want {
			t.Fatalf("ParseFloat(%q): %g, %v, want the bits %x", expo.Float(x), y, is, want)
		}
	}
}
