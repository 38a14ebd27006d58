package times_test

import (
	"math"
	"math/big"
	"math/rand"
	"regexp"
	"strings"
	"testing"

	"abacus/api"
	"abacus/times"
)

const (
	hour   = int64(3600000000000)
	second = int64(1000000000)
)

// whole is how a span's text is formed, if it is not empty; number, how a number is. The ends are what makes a text whole that was cut behind some byte.
var (
	whole  = regexp.MustCompile(`^((0|[1-9][0-9]*)h)?((0|[1-9][0-9]*)m)?((0|[1-9][0-9]*)s)?((0|[1-9][0-9]*)ms)?((0|[1-9][0-9]*)us)?((0|[1-9][0-9]*)ns)?$`)
	number = regexp.MustCompile(`^(0|[1-9][0-9]*)$`)
	ends   = []string{"", "h", "m", "s", "ms", "us", "ns", "0h", "0m", "0s", "0ms", "0us", "0ns"}
)

func isSpan(s string) bool { return s != "" && whole.MatchString(s) }

// isRate tells whether s is a number, / and a span's text, of 0 too.
func isRate(s string) bool {
	n, per, ok := strings.Cut(s, "/")
	return ok && number.MatchString(n) && isSpan(per)
}

// goesOn tells whether some text of that form begins with s: what is to be tried behind s are the ends.
func goesOn(s string, is func(string) bool, ends []string) bool {
	for _, e := range ends {
		if is(s + e) {
			return true
		}
	}
	return false
}

// fault is the first byte with which no text of that form goes on.
func fault(s string, is func(string) bool, ends []string) int {
	for n := 1; n <= len(s); n++ {
		if !goesOn(s[:n], is, ends) {
			return n - 1
		}
	}
	return len(s)
}

func TestPrintSpan(t *testing.T) { // 2.1
	for d, want := range map[int64]string{
		0: "0s", 1: "1ns", 999: "999ns", 1000: "1us", 1001: "1us1ns", 1500000: "1ms500us",
		second: "1s", second - 1: "999ms999us999ns", 60 * second: "1m", 61 * second: "1m1s",
		hour: "1h", hour - second: "59m59s", 5400000000001: "1h30m1ns", 25 * hour: "25h",
		api.MaxAt: "640511h56m49s213ms693us952ns",
	} {
		if s, why := times.PrintSpan(d); s != want || why != api.OK {
			t.Errorf("PrintSpan(%d): %q, error %d", d, s, why)
		}
	}
	for _, d := range []int64{-1, api.MaxAt + 1, math.MinInt64, math.MaxInt64} {
		if s, why := times.PrintSpan(d); s != "" || why != api.ErrRange {
			t.Errorf("PrintSpan(%d): %q, error %d", d, s, why)
		}
	}
}

func TestParseSpan(t *testing.T) { // 2.2
	for s, want := range map[string]int64{
		"0s": 0, "0h": 0, "0h0m0s0ms0us0ns": 0, "90m": 90 * 60 * second, "1m1ms": 60001000000, "1m1s": 61 * second,
		"1h1ns": hour + 1, "0h5ns": 5, "1ms500us": 1500000, "10s": 10 * second, "1000ns": 1000, "1us1ns": 1001,
		"2305843009213693952ns": api.MaxAt, "2305843009213693951ns": api.MaxAt - 1, "640511h56m49s213ms693us952ns": api.MaxAt,
	} {
		if d, why, at := times.ParseSpan(s); d != want || why != api.OK || at != 0 {
			t.Errorf("ParseSpan(%q): %d, error %d at %d", s, d, why, at)
		}
	}
	for _, x := range []struct {
		s    string
		want api.Errno
		at   int
	}{
		{"", api.ErrTime, 0}, {"1", api.ErrTime, 1}, {"1x", api.ErrTime, 1}, {"1s1m", api.ErrTime, 4}, {"01s", api.ErrTime, 1},
		{"1s ", api.ErrTime, 2}, {"999999999h", api.ErrRange, 0}, {"1s1s", api.ErrTime, 3},
		{"x", api.ErrTime, 0}, {"s", api.ErrTime, 0}, {"-1s", api.ErrTime, 0}, {"+1s", api.ErrTime, 0}, {" 1s", api.ErrTime, 0},
		{"1.5s", api.ErrTime, 1}, {"00s", api.ErrTime, 1}, {"1n", api.ErrTime, 2}, {"1u", api.ErrTime, 2}, {"1us1u", api.ErrTime, 4},
		{"1ns1", api.ErrTime, 3}, {"1ns1ns", api.ErrTime, 3}, {"1ms1m", api.ErrTime, 4}, {"1m1m", api.ErrTime, 4}, {"1m1m1", api.ErrTime, 4},
		{"1h1", api.ErrTime, 3}, {"1h1h", api.ErrTime, 3}, {"1S", api.ErrTime, 1}, {"1s\x00", api.ErrTime, 2}, {"1\xff", api.ErrTime, 1},
		{"1µs", api.ErrTime, 1}, {"١s", api.ErrTime, 0},
		// A part's form is ahead of its size; what stands first counts.
		{"99999999999999999999", api.ErrTime, 20}, {"99999999999999999999x", api.ErrTime, 20}, {"99999999999999999999ms", api.ErrRange, 0},
		{"999999999hx", api.ErrRange, 0}, {"999999999h1h", api.ErrRange, 0}, {"999999999h01s", api.ErrRange, 0}, {"01h999999999h", api.ErrTime, 1},
		{"2305843009213693953ns", api.ErrRange, 0}, {"9223372036854775808ns", api.ErrRange, 0}, {"18446744073709551616ns", api.ErrRange, 0}, {"18446744073709551617ns", api.ErrRange, 0},
		{"640511h56m49s213ms693us953ns", api.ErrRange, 23}, {"640511h56m49s213ms694us", api.ErrRange, 18}, {"640512h", api.ErrRange, 0}, {"640511h57m1s", api.ErrRange, 7},
		{"640511h9999999999999999999m0s", api.ErrRange, 7}, {"640511h57mx", api.ErrRange, 7}, {"640511h57", api.ErrTime, 9},
		{"5124096h", api.ErrRange, 0}, // in nanoseconds 2^64 and some more
	} {
		if d, why, at := times.ParseSpan(x.s); d != 0 || why != x.want || at != x.at {
			t.Errorf("ParseSpan(%q): %d, error %d at %d, not %d at %d", x.s, d, why, at, x.want, x.at)
		}
	}
}

// texts are all texts of so many letters, or fewer.
func texts(letters string, most int) []string {
	list := []string{""}
	for at := 0; at < len(list); at++ {
		if len(list[at]) < most {
			for _, x := range letters {
				list = append(list, list[at]+string(x))
			}
		}
	}
	return list
}

func TestParseSpanOfAllTexts(t *testing.T) { // 2.2
	for _, s := range texts("01hmsun", 6) {
		_, why, at := times.ParseSpan(s)
		if isSpan(s) {
			if why != api.OK || at != 0 {
				t.Fatalf("ParseSpan(%q): error %d at %d", s, why, at)
			}
		} else if want := fault(s, isSpan, ends); why != api.ErrTime || at != want {
			t.Fatalf("ParseSpan(%q): error %d at %d, not at %d", s, why, at, want)
		}
	}
}

func TestParseRateOfAllTexts(t *testing.T) { // 2.4
	behind := append([]string{"0/0s", "/0s"}, ends...)
	for _, s := range texts("01/msn", 6) {
		_, why, at := times.ParseRate(s)
		_, per, _ := strings.Cut(s, "/")
		switch {
		case !isRate(s):
			if want := fault(s, isRate, behind); why != api.ErrTime || at != want {
				t.Fatalf("ParseRate(%q): error %d at %d, not at %d", s, why, at, want)
			}
		case strings.Trim(per, "0hmsun") == "":
			if why != api.ErrTime || at != len(s) {
				t.Fatalf("ParseRate(%q), of a span that says 0: error %d at %d", s, why, at)
			}
		case why != api.OK || at != 0:
			t.Fatalf("ParseRate(%q): error %d at %d", s, why, at)
		}
	}
}

func TestSpansThereAndBack(t *testing.T) { // 2.7
	r := rand.New(rand.NewSource(1))
	spans := []int64{0, 1, 999, 1000, second, hour, api.MaxAt - 1, api.MaxAt}
	for range 20000 {
		spans = append(spans, r.Int63n(api.MaxAt+1)>>r.Intn(61))
	}
	for _, d := range spans {
		s, why := times.PrintSpan(d)
		if back, again, _ := times.ParseSpan(s); why != api.OK || again != api.OK || back != d || !isSpan(s) {
			t.Fatalf("%d is written as %q, and read as %d, errors %d, %d", d, s, back, why, again)
		}
	}
	for _, s := range texts("012hms", 5) {
		if d, why, _ := times.ParseSpan(s); why == api.OK {
			written, _ := times.PrintSpan(d)
			if back, why, _ := times.ParseSpan(written); why != api.OK || back != d {
				t.Fatalf("%q is %d, written as %q, and read as %d", s, d, written, back)
			}
		}
	}
}

func TestPrintRate(t *testing.T) { // 2.4
	for r, want := range map[api.Rate]string{
		{N: 100, Per: second}: "100/1s", {Per: 1}: "0/1ns", {N: 6, Per: 4000}: "6/4us", {N: api.MaxPer, Per: api.MaxAt}: "1099511627776/640511h56m49s213ms693us952ns",
	} {
		if s, why := times.PrintRate(r); s != want || why != api.OK {
			t.Errorf("PrintRate(%v): %q, error %d", r, s, why)
		}
	}
}

func TestParseRate(t *testing.T) { // 2.4
	for s, want := range map[string]api.Rate{
		"5/90s": {N: 5, Per: 90 * second}, "0/1ns": {Per: 1}, "1099511627776/1h": {N: api.MaxPer, Per: hour}, "6/0h4ns": {N: 6, Per: 4},
		"1/2305843009213693952ns": {N: 1, Per: api.MaxAt},
	} {
		if r, why, at := times.ParseRate(s); r != want || why != api.OK || at != 0 {
			t.Errorf("ParseRate(%q): %v, error %d at %d", s, r, why, at)
		}
	}
	for _, x := range []struct {
		s    string
		want api.Errno
		at   int
	}{
		{"5/0s", api.ErrTime, 4}, {"5", api.ErrTime, 1}, {"5/", api.ErrTime, 2}, {"", api.ErrTime, 0}, {"/1s", api.ErrTime, 0}, {"x", api.ErrTime, 0},
		{"-5/1s", api.ErrTime, 0}, {"05/1s", api.ErrTime, 1}, {"5 /1s", api.ErrTime, 1}, {"5/ 1s", api.ErrTime, 2}, {"5/1x", api.ErrTime, 3}, {"5/1s ", api.ErrTime, 4},
		{"5/0h0ns", api.ErrTime, 7}, {"5/1", api.ErrTime, 3}, {"5/1s1m", api.ErrTime, 6}, {"5//1s", api.ErrTime, 2}, {"5/1s/1s", api.ErrTime, 4},
		{"1099511627777/1s", api.ErrRange, 0}, {"1099511627777", api.ErrRange, 0}, {"1099511627777x", api.ErrRange, 0}, {"99999999999999999999/x", api.ErrRange, 0},
		{"18446744073709551617/1s", api.ErrRange, 0}, {"5/640512h", api.ErrRange, 2}, {"5/640511h57m", api.ErrRange, 9}, {"5/999999999hx", api.ErrRange, 2}, {"05/640512h", api.ErrTime, 1},
	} {
		if r, why, at := times.ParseRate(x.s); r != (api.Rate{}) || why != x.want || at != x.at {
			t.Errorf("ParseRate(%q): %v, error %d at %d, not %d at %d", x.s, r, why, at, x.want, x.at)
		}
	}
}

func TestRatesThereAndBack(t *testing.T) { // 2.7
	r := rand.New(rand.NewSource(2))
	for range 20000 {
		want := rate(r)
		s, why := times.PrintRate(want)
		if back, again, _ := times.ParseRate(s); why != api.OK || again != api.OK || back != want {
			t.Fatalf("%v is written as %q, and read as %v, errors %d, %d", want, s, back, why, again)
		}
	}
}

// rate is a rate that is right: small and great ones, the bounds among them.
func rate(r *rand.Rand) api.Rate {
	n, per := r.Int63n(api.MaxPer+1)>>r.Intn(41), 1+r.Int63n(api.MaxAt)>>r.Intn(61)
	switch r.Intn(12) {
	case 0:
		n = api.MaxPer
	case 1:
		n = 0
	case 2:
		per = api.MaxAt
	case 3:
		per = 1
	}
	return api.Rate{N: n, Per: per}
}

// span is a span: small and great ones, the bounds among them.
func span(r *rand.Rand) int64 {
	switch r.Intn(12) {
	case 0:
		return api.MaxAt
	case 1:
		return 0
	}
	return r.Int63n(api.MaxAt+1) >> r.Intn(62)
}

func TestWrongRates(t *testing.T) { // 2.3, 2.4, 2.5
	good := api.Rate{N: 1, Per: 1}
	for _, r := range []api.Rate{
		{}, {N: 1}, {N: -1, Per: 1}, {N: 1, Per: -1}, {N: api.MaxPer + 1, Per: 1}, {N: 1, Per: api.MaxAt + 1},
		{N: math.MaxInt64, Per: math.MaxInt64}, {N: math.MinInt64, Per: math.MinInt64},
	} {
		if why := times.CheckRate(r); why != api.ErrRate {
			t.Errorf("CheckRate(%v): error %d", r, why)
		}
		if l, why := times.Lowest(r); l != (api.Rate{}) || why != api.ErrRate {
			t.Errorf("Lowest(%v): %v, error %d", r, l, why)
		}
		for _, pair := range [][2]api.Rate{{r, good}, {good, r}, {r, r}} {
			if c, why := times.Compare(pair[0], pair[1]); c != 0 || why != api.ErrRate {
				t.Errorf("Compare(%v): %d, error %d", pair, c, why)
			}
		}
		if s, why := times.PrintRate(r); s != "" || why != api.ErrRate {
			t.Errorf("PrintRate(%v): %q, error %d", r, s, why)
		}
		for _, d := range []int64{0, 1, -1, api.MaxAt + 1} { // ErrRate is ahead of ErrRange
			if n, why := times.Accrued(r, d); n != 0 || why != api.ErrRate {
				t.Errorf("Accrued(%v, %d): %d, error %d", r, d, n, why)
			}
			if n, why := times.Cost(r, d); n != 0 || why != api.ErrRate {
				t.Errorf("Cost(%v, %d): %d, error %d", r, d, n, why)
			}
		}
	}
	for _, r := range []api.Rate{good, {Per: 1}, {N: api.MaxPer, Per: api.MaxAt}} {
		if why := times.CheckRate(r); why != api.OK {
			t.Errorf("CheckRate(%v): error %d", r, why)
		}
	}
}

func TestLowest(t *testing.T) { // 2.3
	for r, want := range map[api.Rate]api.Rate{
		{N: 6, Per: 4}: {N: 3, Per: 2}, {Per: 5}: {Per: 1}, {Per: api.MaxAt}: {Per: 1}, {N: 3, Per: 2}: {N: 3, Per: 2}, {N: 7, Per: 7}: {N: 1, Per: 1},
		{N: api.MaxPer, Per: api.MaxAt}: {N: 1, Per: 1 << 21}, {N: 4, Per: 6}: {N: 2, Per: 3},
	} {
		if l, why := times.Lowest(r); l != want || why != api.OK {
			t.Errorf("Lowest(%v): %v, error %d", r, l, why)
		}
	}
}

// fraction is what a rate comes to in a nanosecond.
func fraction(r api.Rate) *big.Rat { return big.NewRat(r.N, r.Per) }

// floor is the greatest whole number that is at most x.
func floor(x *big.Rat) *big.Int { return new(big.Int).Div(x.Num(), x.Denom()) }

func TestLowestAndCompareAgainstFractions(t *testing.T) { // 2.3, 2.10
	random := rand.New(rand.NewSource(3))
	for range 20000 {
		a, b := rate(random), rate(random)
		if random.Intn(4) == 0 { // as great, or next to it
			b = api.Rate{N: min(a.N*2, api.MaxPer), Per: min(a.Per*2, api.MaxAt)}
		}
		c, why := times.Compare(a, b)
		if want := fraction(a).Cmp(fraction(b)); why != api.OK || c != want {
			t.Fatalf("Compare(%v, %v): %d, error %d, not %d", a, b, c, why, want)
		}
		if c, _ := times.Compare(b, a); c != -fraction(a).Cmp(fraction(b)) {
			t.Fatalf("Compare(%v, %v): %d", b, a, c)
		}
		l, why := times.Lowest(a)
		if x := fraction(a); why != api.OK || x.Num().Int64() != l.N || x.Denom().Int64() != l.Per {
			t.Fatalf("Lowest(%v): %v, error %d", a, l, why)
		}
	}
	if c, _ := times.Compare(api.Rate{N: 1, Per: 3}, api.Rate{N: 2, Per: 6}); c != 0 {
		t.Error("1/3 and 2/6:", c)
	}
}

func TestAccruedAndCost(t *testing.T) { // 2.5
	three, most := api.Rate{N: 3, Per: 2 * second}, api.Rate{N: api.MaxPer, Per: 1}
	for _, x := range []struct {
		r       api.Rate
		d, want int64
		why     api.Errno
		cost    bool
	}{
		{r: three, d: second, want: 1}, {r: three, d: 2 * second, want: 3}, {r: three, d: 0, want: 0}, {r: api.Rate{Per: 1}, d: api.MaxAt, want: 0},
		{r: most, d: 1 << 40, why: api.ErrMany}, {r: most, d: 1 << 21, want: api.MaxAt}, {r: most, d: 1<<21 + 1, why: api.ErrMany},
		{r: most, d: 1 << 24, why: api.ErrMany}, {r: most, d: api.MaxAt, why: api.ErrMany}, // 2^64 and 2^101
		{r: api.Rate{N: 1, Per: 1}, d: api.MaxAt, want: api.MaxAt}, {r: api.Rate{N: api.MaxPer, Per: api.MaxAt}, d: api.MaxAt, want: api.MaxPer},
		{r: api.Rate{N: 3, Per: 2}, d: api.MaxAt/3*2 + 1, want: api.MaxAt - 1}, {r: api.Rate{N: 3, Per: 2}, d: api.MaxAt/3*2 + 2, why: api.ErrMany},
		{r: three, d: -1, why: api.ErrRange}, {r: most, d: api.MaxAt + 1, why: api.ErrRange},
		{cost: true, r: three, d: 1, want: 666666667}, {cost: true, r: three, d: 0, want: 0}, {cost: true, r: three, d: 3, want: 2 * second}, {cost: true, r: three, d: 4, want: 2666666667},
		{cost: true, r: api.Rate{Per: 1}, d: 1, why: api.ErrMany}, {cost: true, r: api.Rate{Per: 1}, d: 0, want: 0},
		{cost: true, r: api.Rate{N: 1, Per: 1}, d: api.MaxAt, want: api.MaxAt}, {cost: true, r: api.Rate{N: 1, Per: 2}, d: api.MaxAt/2 + 1, why: api.ErrMany}, {cost: true, r: api.Rate{N: 1, Per: 2}, d: api.MaxAt / 2, want: api.MaxAt},
		{cost: true, r: api.Rate{N: 1, Per: api.MaxAt}, d: api.MaxAt, why: api.ErrMany}, {cost: true, r: api.Rate{N: 1, Per: 8}, d: 1 << 61, why: api.ErrMany}, // 2^122 and 2^64
		{cost: true, r: api.Rate{N: 3, Per: 4}, d: api.MaxAt/4*3 + 1, why: api.ErrMany}, {cost: true, r: api.Rate{N: 3, Per: 4}, d: api.MaxAt / 4 * 3, want: api.MaxAt},
		{cost: true, r: most, d: api.MaxAt, want: 1 << 21}, {cost: true, r: most, d: 1, want: 1},
		{cost: true, r: three, d: -1, why: api.ErrRange}, {cost: true, r: api.Rate{Per: 1}, d: api.MaxAt + 1, why: api.ErrRange},
	} {
		f, name := times.Accrued, "Accrued"
		if x.cost {
			f, name = times.Cost, "Cost"
		}
		if got, why := f(x.r, x.d); got != x.want || why != x.why {
			t.Errorf("%s(%v, %d): %d, error %d, not %d, error %d", name, x.r, x.d, got, why, x.want, x.why)
		}
	}
}

func TestAccruedAndCostAgainstFractions(t *testing.T) { // 2.5
	random, most := rand.New(rand.NewSource(4)), big.NewInt(api.MaxAt)
	check := func(name string, want *big.Int, got int64, why api.Errno) {
		t.Helper()
		if want == nil || want.Cmp(most) > 0 {
			if got != 0 || why != api.ErrMany {
				t.Fatalf("%s: %d, error %d, not ErrMany", name, got, why)
			}
		} else if got != want.Int64() || why != api.OK {
			t.Fatalf("%s: %d, error %d, not %d", name, got, why, want)
		}
	}
	for range 20000 {
		r, d := rate(random), span(random)
		x := new(big.Rat).SetInt64(d)
		got, why := times.Accrued(r, d)
		check("Accrued", floor(new(big.Rat).Mul(fraction(r), x)), got, why)
		got, why = times.Cost(r, d)
		var want *big.Int
		if d == 0 {
			want = new(big.Int)
		} else if r.N > 0 {
			least := new(big.Rat).Quo(x, fraction(r))
			want = floor(least)
			if !least.IsInt() {
				want.Add(want, big.NewInt(1))
			}
		}
		check("Cost", want, got, why)
	}
}

func TestAdjoint(t *testing.T) { // 2.8
	random := rand.New(rand.NewSource(5))
	for range 20000 {
		r, d, n := rate(random), span(random), span(random)
		if random.Intn(2) == 0 {
			n, _ = times.Accrued(r, d)
			n = max(0, n+random.Int63n(3)-1)
		}
		got, why := times.Accrued(r, d)
		enough := why == api.ErrMany || got >= n
		cost, why := times.Cost(r, n)
		if enough != (why == api.OK && d >= cost) && n <= api.MaxAt {
			t.Fatalf("of %v %d in %d; %d cost %d", r, got, d, n, cost)
		}
	}
}

func TestParts(t *testing.T) { // 2.9
	random := rand.New(rand.NewSource(6))
	for range 20000 {
		r, a, b := rate(random), span(random)/2, span(random)/2
		x, one := times.Accrued(r, a)
		y, two := times.Accrued(r, b)
		z, both := times.Accrued(r, a+b)
		if one == api.OK && two == api.OK && both == api.OK && (x+y > z || z > x+y+1) {
			t.Fatalf("of %v: %d in %d, %d in %d, %d in both", r, x, a, y, b, z)
		}
		if both == api.OK && (one != api.OK || two != api.OK) {
			t.Fatalf("of %v: a part is more than both", r)
		}
	}
}

func TestAsGreat(t *testing.T) { // 2.10
	random := rand.New(rand.NewSource(7))
	for range 20000 {
		r, q, d := rate(random), rate(random), span(random)
		l, _ := times.Lowest(r)
		if c, why := times.Compare(r, l); c != 0 || why != api.OK {
			t.Fatalf("%v is not as great as %v", r, l)
		}
		for _, f := range []func(api.Rate, int64) (int64, api.Errno){times.Accrued, times.Cost} {
			a, why := f(r, d)
			if b, again := f(l, d); a != b || why != again {
				t.Fatalf("%v and %v, as great, by %d: %d and %d", r, l, d, a, b)
			}
		}
		if c, _ := times.Compare(r, q); c >= 0 {
			less, no := times.Accrued(q, d)
			more, many := times.Accrued(r, d)
			if many == api.OK && (no != api.OK || more < less) {
				t.Fatalf("%v, at least %v, has less by %d: %d and %d", r, q, d, more, less)
			}
		}
	}
}

func TestCompareIsAnOrder(t *testing.T) { // 2.10
	random := rand.New(rand.NewSource(8))
	for range 5000 {
		a, b, c := rate(random), rate(random), rate(random)
		ab, _ := times.Compare(a, b)
		bc, _ := times.Compare(b, c)
		ac, _ := times.Compare(a, c)
		aa, _ := times.Compare(a, a)
		if aa != 0 || ab <= 0 && bc <= 0 && ac > 0 || ab < 0 && bc <= 0 && ac >= 0 {
			t.Fatalf("no order: %v, %v, %v", a, b, c)
		}
	}
}

func TestWindows(t *testing.T) { // 2.6
	for _, x := range []struct {
		at, length, want int64
		why              api.Errno
	}{
		{10, 4, 2, 0}, {0, 1, 0, 0}, {0, api.MaxAt, 0, 0}, {api.MaxAt, 1, api.MaxAt, 0}, {api.MaxAt, api.MaxAt, 1, 0}, {api.MaxAt - 1, api.MaxAt, 0, 0},
		{-1, 4, 0, api.ErrRange}, {api.MaxAt + 1, 4, 0, api.ErrRange}, {10, 0, 0, api.ErrRange}, {10, -1, 0, api.ErrRange}, {10, api.MaxAt + 1, 0, api.ErrRange},
		{math.MinInt64, math.MinInt64, 0, api.ErrRange}, {math.MinInt64, -1, 0, api.ErrRange},
	} {
		if w, why := times.Window(x.at, x.length); w != x.want || why != x.why {
			t.Errorf("Window(%d, %d): %d, error %d", x.at, x.length, w, why)
		}
	}
	for _, x := range []struct {
		number, length, first, behind int64
		why                           api.Errno
	}{
		{2, 4, 8, 12, 0}, {0, 1, 0, 1, 0}, {0, api.MaxAt, 0, api.MaxAt, 0}, {1, api.MaxAt, api.MaxAt, 2 * api.MaxAt, 0}, {api.MaxAt, 1, api.MaxAt, api.MaxAt + 1, 0},
		{api.MaxAt / 3, 3, api.MaxAt - 2, api.MaxAt + 1, 0},
		{0, 0, 0, 0, api.ErrRange}, {0, -1, 0, 0, api.ErrRange}, {0, api.MaxAt + 1, 0, 0, api.ErrRange}, {-1, 4, 0, 0, api.ErrRange}, {2, api.MaxAt, 0, 0, api.ErrRange},
		{api.MaxAt/3 + 1, 3, 0, 0, api.ErrRange}, {1 << 32, 1 << 32, 0, 0, api.ErrRange}, {math.MaxInt64, api.MaxAt, 0, 0, api.ErrRange}, {math.MinInt64, 2, 0, 0, api.ErrRange},
	} {
		if a, b, why := times.Bounds(x.number, x.length); a != x.first || b != x.behind || why != x.why {
			t.Errorf("Bounds(%d, %d): %d, %d, error %d", x.number, x.length, a, b, why)
		}
	}
	for _, x := range []struct {
		from, to, length, first, last int64
		why                           api.Errno
	}{
		{3, 9, 4, 0, 2, 0}, {4, 4, 4, 1, 1, 0}, {3, 4, 4, 0, 1, 0}, {0, api.MaxAt, api.MaxAt, 0, 1, 0}, {0, api.MaxAt, 1, 0, api.MaxAt, 0},
		{9, 3, 4, 0, 0, api.ErrRange}, {5, 4, 4, 0, 0, api.ErrRange}, {-1, 9, 4, 0, 0, api.ErrRange}, {3, api.MaxAt + 1, 4, 0, 0, api.ErrRange}, {3, 9, 0, 0, 0, api.ErrRange}, {3, 9, api.MaxAt + 1, 0, 0, api.ErrRange},
	} {
		if a, b, why := times.Touched(x.from, x.to, x.length); a != x.first || b != x.last || why != x.why {
			t.Errorf("Touched(%d, %d, %d): %d, %d, error %d", x.from, x.to, x.length, a, b, why)
		}
	}
}

func TestWindowsHaveNoGaps(t *testing.T) { // 2.11
	random := rand.New(rand.NewSource(9))
	for range 20000 {
		at, length := span(random), 1+span(random)
		if length > api.MaxAt {
			length = api.MaxAt
		}
		w, why := times.Window(at, length)
		first, behind, again := times.Bounds(w, length)
		if why != api.OK || again != api.OK || at < first || at >= behind || behind-first != length {
			t.Fatalf("%d lies in the window %d of %d: %d to %d, errors %d, %d", at, w, length, first, behind, why, again)
		}
		if _, end, why := times.Bounds(w-1, length); w > 0 && (why != api.OK || end != first) {
			t.Fatalf("ahead of the window %d of %d: to %d, not to %d", w, length, end, first)
		}
		if begin, _, why := times.Bounds(w+1, length); behind <= api.MaxAt && (why != api.OK || begin != behind) || behind > api.MaxAt && why != api.ErrRange {
			t.Fatalf("behind the window %d of %d: from %d, not from %d, error %d", w, length, begin, behind, why)
		}
		a, b, why := times.Touched(at/2, at, length)
		if x, _ := times.Window(at/2, length); why != api.OK || a != x || b != w {
			t.Fatalf("Touched(%d, %d, %d): %d, %d, error %d", at/2, at, length, a, b, why)
		}
	}
}
