package statsd_test

import (
	"math"
	"math/rand"
	"strconv"
	"strings"
	"testing"

	"abacus/api"
	"abacus/statsd"
)

func TestPrint(t *testing.T) { // 16.3, example 3
	prints(t, weighed(point(count, "hits", 1500000), 3), "hits:1.5|c|@0.3")
	prints(t, weighed(point(count, "hits", 2000000, "job", "a"), 10), "hits:2|c|@0.1|#job:a")
	prints(t, weighed(point(times, "t", 0), 2), "t:0|ms|@0.5")
	prints(t, weighed(point(hist, "t", 1), 1000000), "t:0.000001|h|@0.000001")
	prints(t, point(count, "a", -1), "a:-0.000001|c")
	prints(t, point(count, "a", 1-api.MaxAmount, "a", "x", "b", "y"), "a:-999999.999999|c|#a:x,b:y")
	prints(t, point(count, "a", 10000000), "a:10|c")
	prints(t, point(gauge, "a", 1050000), "a:1.05|g")
	prints(t, point(gauge, "a", 0), "a:0|g")
	prints(t, rel(point(gauge, "a", 0)), "a:+0|g")
	prints(t, rel(point(gauge, "a", 1)), "a:+0.000001|g")
	prints(t, rel(point(gauge, "a", -2500000, "b", "c")), "a:-2.5|g|#b:c")
	prints(t, point(hist, "a", 100000000000), "a:100000|h")
	prints(t, member("u", "é:,#@"), "u:é:,#@|s")
	prints(t, member("u", "x", "a", ":", "b", "#"), "u:x|s|#a::,b:#")
	prints(t, api.Point{Kind: count, Name: "a", Labels: []api.Label{}, Weight: 1}, "a:0|c")
}

func TestRight(t *testing.T) { // 16.3
	kinds := []api.PointKind{count, gauge, times, hist}
	for _, kind := range kinds {
		right(t, point(kind, "a", 0), true)
		right(t, point(kind, "a", api.MaxAmount-1), true)
		right(t, point(kind, "a", -1), kind == count)
		right(t, point(kind, "a", 1-api.MaxAmount), kind == count)
		right(t, rel(point(kind, "a", -1)), kind == gauge)
		right(t, rel(point(kind, "a", 1-api.MaxAmount)), kind == gauge)
		right(t, rel(point(kind, "a", api.MaxAmount-1)), kind == gauge)
		right(t, rel(point(kind, "a", 0)), kind == gauge)
		for _, value := range []int64{api.MaxAmount, -api.MaxAmount, math.MaxInt64, math.MinInt64, math.MinInt64 + 1} {
			right(t, point(kind, "a", value), false)
			right(t, rel(point(kind, "a", value)), false)
		}
		text := point(kind, "a", 0)
		text.Text = "x"
		right(t, text, false)
		right(t, weighed(point(kind, "a", 1), 2), kind != gauge)
		for _, w := range []int64{0, -1, api.MaxWeight + 1, math.MaxInt64, math.MinInt64} {
			right(t, weighed(point(kind, "a", 1), w), false)
		}
	}
	for _, kind := range []api.PointKind{0, api.PointKinds, api.PointKinds + 1, 255} {
		right(t, point(kind, "a", 0), false)
	}
	right(t, api.Point{}, false)
	for _, name := range []string{"a", "_", "a.b-c", "Z9", longName} {
		right(t, point(count, name, 0), true)
		right(t, member(name, "x"), true)
	}
	for _, name := range []string{"", "9", ".", "-a", "a b", "é", "a:", "a|", "a\n", "\xff", longName + "x"} {
		right(t, point(count, name, 0), false)
		right(t, member(name, "x"), false)
	}
}

func TestRightLabels(t *testing.T) { // 16.3
	for _, set := range [][]api.Label{nil, {}, of("a", "x"), of("a", ":"), of("a", "#@\"\\ \r\x00é"), many(api.MaxLabels), of(strings.Repeat("n", api.MaxName), strings.Repeat("x", api.MaxValue))} {
		p := api.Point{Kind: count, Name: "a", Labels: set, Weight: 1}
		right(t, p, true)
	}
	for _, set := range [][]api.Label{of("a", ""), of("", "x"), of("a.b", "x"), of("a", "x,y"), of("a", "|"), of("a", "x\n"), of("a", "x", "b", ","), of("a", "\xff"), of("b", "x", "a", "x"), of("a", "x", "a", "y"), many(api.MaxLabels + 1), of("a", strings.Repeat("x", api.MaxValue+1))} {
		right(t, api.Point{Kind: count, Name: "a", Labels: set, Weight: 1}, false)
		right(t, api.Point{Kind: api.PointSet, Name: "a", Labels: set, Weight: 1, Text: "x"}, false)
	}
}

func TestRightMembers(t *testing.T) { // 16.3
	for _, text := range []string{"x", ":", ",", "#", "@", " ", "é", "\x00", "\r", strings.Repeat("x", api.MaxValue)} {
		right(t, member("u", text), true)
	}
	for _, text := range []string{"", "|", "a|b", "\n", "x\n", "\xff", "a\xc3", strings.Repeat("x", api.MaxValue+1)} {
		right(t, member("u", text), false)
	}
	p := member("u", "x")
	p.Value = 1
	right(t, p, false)
	p.Value = -1
	right(t, p, false)
	right(t, rel(member("u", "x")), false)
	for _, w := range []int64{0, 2, -1, 10, math.MaxInt64} {
		right(t, weighed(member("u", "x"), w), false)
	}
}

// A point that no line has room for is right all the same.
func TestTooLongALine(t *testing.T) { // 16.3, 16.6
	set := many(api.MaxLabels)
	for i := range set {
		set[i].Value = strings.Repeat("v", api.MaxValue)
	}
	p := api.Point{Kind: count, Name: "a", Labels: set, Weight: 1}
	right(t, p, true)
	text, _ := statsd.Print(p)
	if len(text) <= api.MaxLine {
		t.Fatal("the line has", len(text))
	}
	breaks(t, text, 1)
}

// shortest are the rates of each weight, as a text: those of the fewest digits, of these the least.
func shortest() map[int64]string {
	rates := map[int64]string{}
	for digits, most := 1, 10; digits <= 6; digits, most = digits+1, most*10 {
		for i := 1; i < most; i++ {
			w := weight(int64(i * (1000000 / most)))
			if _, is := rates[w]; !is {
				rates[w] = "0." + strconv.Itoa(most + i)[1:]
			}
		}
	}
	rates[1] = "1"
	return rates
}

func TestWeights(t *testing.T) { // 16.1, 16.3, 16.6
	rates := shortest()
	told := 0
	for w := int64(-2); w <= api.MaxWeight+2; w++ {
		rate, is := rates[w]
		p := weighed(point(count, "a", 1000000), w)
		if statsd.Right(p) != is {
			t.Fatalf("Right of the weight %d is not %v", w, is)
		}
		if !is {
			if _, why := statsd.Print(p); why != api.ErrPoint {
				t.Fatalf("Print of the weight %d: error %d", w, why)
			}
			continue
		}
		told++
		want := "a:1|c"
		if w > 1 {
			want += "|@" + rate
		}
		if text, why := statsd.Print(p); text != want || why != api.OK {
			t.Fatalf("Print of the weight %d: %q, error %d, want %q", w, text, why, want)
		}
		if q, rule := statsd.Line(want); rule != 0 || q.Weight != w {
			t.Fatalf("Line(%q): weight %d, rule %d, want %d", want, q.Weight, rule, w)
		}
	}
	if told < 1000 {
		t.Error("so few weights:", told)
	}
}

func TestWeightOfRates(t *testing.T) { // 16.1
	for rate := int64(1); rate < 1000000; rate += 1 + rate/3000 {
		line := "a:1|c|@0." + strconv.FormatInt(1000000+rate, 10)[1:]
		p, rule := statsd.Line(line)
		w := p.Weight // the one with w - 1/2 <= 1000000 / rate < w + 1/2
		if rule != 0 || (2*w-1)*rate > 2000000 || (2*w+1)*rate <= 2000000 {
			t.Fatalf("Line(%q): weight %d, rule %d", line, w, rule)
		}
	}
}

func TestThereAndBack(t *testing.T) { // 16.6, P13
	r := rand.New(rand.NewSource(3))
	for range 100000 {
		p := somePoint(r)
		text, why := statsd.Print(p)
		q, rule := statsd.Line(text)
		if why != api.OK || rule != 0 || !isSamePoint(p, q) {
			t.Fatalf("Print(%v): %q, error %d; it says %v, rule %d", p, text, why, q, rule)
		}
		if again, _ := statsd.Print(q); again != text {
			t.Fatalf("%q is written as %q", text, again)
		}
		line := someLine(r)
		p, rule = statsd.Line(line)
		if rule > 0 {
			continue
		}
		text, why = statsd.Print(p)
		q, rule = statsd.Line(text)
		if why != api.OK || rule != 0 || !isSamePoint(p, q) || len(text) > len(line) {
			t.Fatalf("Line(%q): %v, written as %q, which says %v, rule %d", line, p, text, q, rule)
		}
	}
}
