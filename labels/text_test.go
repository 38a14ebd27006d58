package labels_test

import (
	"math/rand"
	"regexp"
	"slices"
	"strings"
	"testing"
	"unicode/utf8"

	"abacus/api"
	"abacus/labels"
)

func prints(t *testing.T, l []api.Label, want string, why api.Errno) {
	t.Helper()
	if got, e := labels.Print(l); got != want || e != why {
		t.Errorf("Print(%v): %q, error %d, want %q, error %d", l, got, e, want, why)
	}
}

func TestPrint(t *testing.T) { // 12.3, example 1
	prints(t, of("a", `x"y`), `{a="x\"y"}`, api.OK)
	prints(t, nil, "{}", api.OK)
	prints(t, []api.Label{}, "{}", api.OK)
	prints(t, of("a", "x", "b", "1"), `{a="x",b="1"}`, api.OK)
	prints(t, of("a", "\\\n\"n"), `{a="\\\n\"n"}`, api.OK)
	prints(t, of("a", "é\x00\t\r{},=\ufffd😀\x7f"), "{a=\"é\x00\t\r{},=\ufffd😀\x7f\"}", api.OK)
	prints(t, of(longest, fullest), "{"+longest+`="`+fullest+`"}`, api.OK)
	prints(t, of("a", strings.Repeat(`"`, api.MaxValue)), `{a="`+strings.Repeat(`\"`, api.MaxValue)+`"}`, api.OK)
	prints(t, of("b", "x", "a", "x"), "", api.ErrLabel)
	prints(t, of("a", "x", "a", "x"), "", api.ErrLabel)
	prints(t, of("a", ""), "", api.ErrLabel)
	prints(t, of("", "x"), "", api.ErrLabel)
	prints(t, of("a", "\xff"), "", api.ErrLabel)
	prints(t, of("a", fullest+"v"), "", api.ErrLabel)
	prints(t, many(0, api.MaxLabels+1), "", api.ErrLabel)
}

func parses(t *testing.T, s string, want []api.Label, why api.Errno, at int) {
	t.Helper()
	if got, e, i := labels.Parse(s); !slices.Equal(got, want) || e != why || i != at {
		t.Errorf("Parse(%.400q): %v, error %d at %d, want %v, error %d at %d", s, got, e, i, want, why, at)
	}
}

func TestParse(t *testing.T) { // 12.3, example 2
	parses(t, "{}", nil, api.OK, 0)
	parses(t, `{b="1",a="x"}`, of("a", "x", "b", "1"), api.OK, 0)
	parses(t, `{a="\\\n\"n"}`, of("a", "\\\n\"n"), api.OK, 0)
	parses(t, "{a=\"é\x00\t{},=\ufffd\"}", of("a", "é\x00\t{},=\ufffd"), api.OK, 0)
	parses(t, "{"+longest+`="`+fullest+`"}`, of(longest, fullest), api.OK, 0)
	parses(t, `{a="`+fullOfTwo+`"}`, of("a", fullOfTwo), api.OK, 0)
	parses(t, `{a="`+strings.Repeat(`\\`, api.MaxValue)+`"}`, of("a", strings.Repeat(`\`, api.MaxValue)), api.OK, 0)
	for _, x := range []struct {
		text string
		at   int
	}{
		{"", 0}, {"}", 0}, {"a", 0}, {" {}", 0}, {`a="x"`, 0}, {"\xff", 0},
		{"{", 1}, {"{ }", 1}, {"{,}", 1}, {`{="x"}`, 1}, {`{1a="x"}`, 1}, {`{"a"="x"}`, 1}, {`{é="x"}`, 1}, {"{{", 1}, {"{\xff", 1},
		{"{a", 2}, {"{a}", 2}, {"{a,b}", 2}, {`{a"x"}`, 2}, {`{a ="x"}`, 2}, {`{a-b="x"}`, 2}, {`{aé="x"}`, 2}, {`{a!="x"}`, 2}, {`{a:="x"}`, 2},
		{"{a=", 3}, {"{a=x}", 3}, {`{a= "x"}`, 3}, {`{a=~"x"}`, 3}, {"{a=}", 3}, {"{a='x'}", 3},
		{`{a="`, 4}, {`{a=""}`, 4}, {`{a=""`, 4}, {`{a="","x"}`, 4}, {"{a=\"\n\"}", 4}, {"{a=\"\xff\"}", 4},
		{`{a="\`, 5}, {`{a="\q"}`, 5}, {`{a="\é"}`, 5}, {"{a=\"\\\xff\"}", 5}, {"{a=\"\\\n\"}", 5}, {`{a="\N"}`, 5}, {`{a="\t"}`, 5}, {`{a="\x61"}`, 5}, {`{a="\/"}`, 5}, {"{a=\"\\\x00\"}", 5},
		{`{a="x`, 5}, {`{a="\"`, 6}, {`{a="\\\`, 7}, {`{a="é`, 6}, {"{a=\"x\ny\"}", 5},
		{"{a=\"x\xc3", 5}, {"{a=\"x\xe2\x82", 5}, {"{a=\"x\xe2\x82\"}", 5}, {"{a=\"x\xed\xa0\x80\"}", 5}, {"{a=\"\xf0\x9f\x98", 4}, {"{a=\"é\xa9\"}", 6}, {"{a=\"\xc0\x80\"}", 4}, {"{a=\"\xf4\x90\x80\x80\"}", 4}, {"{a=\"\ufffd\xff\"}", 7},
		{`{a="x"`, 6}, {`{a="x";b="y"}`, 6}, {`{a="x" }`, 6}, {`{a="x"b="y"}`, 6}, {`{a="x""`, 6},
		{`{a="x",`, 7}, {`{a="x",}`, 7}, {`{a="x",,`, 7}, {`{a="x", b="y"}`, 7}, {`{a="x",1="y"}`, 7}, {`{a="x",="y"}`, 7},
		{`{a="x",a`, 8}, {`{a="x",a}`, 8}, {`{a="x",a-`, 8}, // the = is not read: the name need not be this one
		{`{a="x",b="y"`, 12}, {`{a="x",b=""}`, 10},
		{"{}x", 2}, {"{}}", 2}, {"{}{}", 2}, {"{}\n", 2}, {"{}\xff", 2}, {"{} ", 2}, {`{a="x"}}`, 7}, {`{a="x"},`, 7},
	} {
		parses(t, x.text, nil, api.ErrLabel, x.at)
	}
	parses(t, `{a="x",a="y"}`, nil, api.ErrTwice, 7)
	parses(t, `{a="x",a=`, nil, api.ErrTwice, 7)
	parses(t, `{a="x",a=""`, nil, api.ErrTwice, 7)
	parses(t, `{a="x",b="y",b="z",a="\q`, nil, api.ErrTwice, 13)
	parses(t, `{a="x",ab="y",a1="z"}`, of("a", "x", "a1", "z", "ab", "y"), api.OK, 0)
}

func TestParseTooLong(t *testing.T) { // 12.3
	name, value := "{a=\"x\",", `{a="`
	for _, x := range []struct {
		text string
		at   int
	}{
		{name + longest + "n", len(name) + api.MaxName},
		{name + longest + `n="x"}`, len(name) + api.MaxName},
		{name + longest + `1="x"}`, len(name) + api.MaxName},
		{name + longest + "-", len(name) + api.MaxName},
		{name + longest, len(name) + api.MaxName},
		{name + strings.Repeat("n", 1<<16), len(name) + api.MaxName},
		{value + fullest + `v"}`, len(value) + api.MaxValue},
		{value + fullest, len(value) + api.MaxValue},
		{value + fullest + "\n", len(value) + api.MaxValue},
		{value + fullest + "\xff", len(value) + api.MaxValue},
		{value + fullest + `\"`, len(value) + api.MaxValue},
		{value + fullest + `\q`, len(value) + api.MaxValue},
		{value + fullest + `\`, len(value) + api.MaxValue},
		{value + fullest + `é"}`, len(value) + api.MaxValue},
		{value + fullest[1:] + `é"}`, len(value) + api.MaxValue}, // in the midst of it
		{value + fullest[1:] + `€"}`, len(value) + api.MaxValue},
		{value + fullest[2:] + `😀"}`, len(value) + api.MaxValue},
		{value + fullest[1:] + "\xe2\x82", len(value) + api.MaxValue - 1},
		{value + fullest[1:] + "\xff", len(value) + api.MaxValue - 1},
		{value + fullest[1:] + `\q`, len(value) + api.MaxValue},
		{value + fullest[1:] + "\n", len(value) + api.MaxValue - 1},
		{value + strings.Repeat(`\n`, api.MaxValue) + "x", len(value) + 2*api.MaxValue},
		{value + strings.Repeat(`\n`, api.MaxValue) + `\n`, len(value) + 2*api.MaxValue},
		{value + strings.Repeat(`\"`, api.MaxValue-1) + "é", len(value) + 2*api.MaxValue - 1},
		{value + strings.Repeat("é", 1<<16), len(value) + api.MaxValue},
		{value + fullest + `"`, len(value) + api.MaxValue + 1},
	} {
		parses(t, x.text, nil, api.ErrLabel, x.at)
	}
}

// listed is the text of labels in any order, open at its end.
func listed(l []api.Label) string {
	text := "{"
	for i, x := range l {
		if i > 0 {
			text += ","
		}
		text += x.Name + `="` + x.Value + `"`
	}
	return text
}

func TestParseMany(t *testing.T) { // 12.3
	full := many(0, api.MaxLabels)
	open := listed(full)
	parses(t, open+"}", full, api.OK, 0)
	for _, more := range []string{`zz="x"}`, "zz=", `zz=""`, "nAa=", `nAa="x"}`, `zz="\q`} { // ahead of ErrTwice
		parses(t, open+","+more, nil, api.ErrMany, len(open)+1)
	}
	parses(t, open+",", nil, api.ErrLabel, len(open)+1)
	parses(t, open+",}", nil, api.ErrLabel, len(open)+1)
	parses(t, open+",zz", nil, api.ErrLabel, len(open)+3)
	parses(t, open+",zz-", nil, api.ErrLabel, len(open)+3)
	parses(t, open, nil, api.ErrLabel, len(open))
	open = listed(full[:api.MaxLabels-1])
	parses(t, open+",nAa=", nil, api.ErrTwice, len(open)+1)
}

// pieces are put together to texts: some of them are none of sets.
var pieces = []string{"{", "}", "a", "b", "a1", "1", "_", "=", `"`, ",", `\`, "n", "é", "\xff", "\n", " ", "!", "~", "x", `\"`, `="x"`, `,b="y"`}

// changed is a text of which some pieces are put in, left out, or put for others.
func changed(r *rand.Rand, text string) string {
	for range r.Intn(3) {
		i := r.Intn(len(text) + 1)
		for i < len(text) && !utf8.RuneStart(text[i]) {
			i++
		}
		width := 0
		if i < len(text) {
			_, width = utf8.DecodeRuneInString(text[i:])
		}
		switch r.Intn(4) {
		case 0:
			text = text[:i] + pieces[r.Intn(len(pieces))] + text[i:]
		case 1:
			text = text[:i] + text[i+width:]
		case 2:
			text = text[:i] + pieces[r.Intn(len(pieces))] + text[i+width:]
		case 3:
			text = text[:i]
		}
	}
	return text
}

const (
	nameForm  = `[A-Za-z_][A-Za-z0-9_]{0,63}`
	valueForm = `"((?:[^"\\\n]|\\[\\"n])*)"`
)

var (
	labelForm = regexp.MustCompile(`(` + nameForm + `)=` + valueForm)
	setForm   = regexp.MustCompile(`^\{(?:` + labelForm.String() + `(?:,` + labelForm.String() + `)*)?\}$`)
	matchForm = regexp.MustCompile(`(` + nameForm + `)(=|!=|=~|!~)` + valueForm)
	listForm  = regexp.MustCompile(`^\{(?:` + matchForm.String() + `(?:,` + matchForm.String() + `)*)?\}$`)
	behind    = regexp.MustCompile(`^(` + nameForm + `)=`)
	plain     = strings.NewReplacer(`\\`, `\`, `\"`, `"`, `\n`, "\n")
)

// setIn are the labels of a text as they stand in it, if it is a text of such, whichever names come again.
func setIn(text string) ([]api.Label, bool) {
	if !utf8.ValidString(text) || !setForm.MatchString(text) {
		return nil, false
	}
	var l []api.Label
	for _, x := range labelForm.FindAllStringSubmatch(text, -1) {
		if x[2] == "" {
			return nil, false
		}
		l = append(l, api.Label{Name: x[1], Value: plain.Replace(x[2])})
	}
	return l, true
}

// goOn tells whether some text that begins so is right.
func goOn(begin string, is func(string) bool) bool {
	for _, end := range []string{"", "}", `"}`, `x"}`, `"x"}`, `="x"}`, `z="x"}`, `n"}`, `~"x"}`, `{}`} {
		if is(begin + end) {
			return true
		}
	}
	return false
}

// isFault tells whether a right text goes on as this one up to a place, and none with the character that stands there.
func isFault(text string, at int, is func(string) bool) bool {
	_, width := utf8.DecodeRuneInString(text[at:])
	return goOn(text[:at], is) && (width == 0 || !goOn(text[:at+width], is))
}

func TestParseOfAny(t *testing.T) { // 12.3, 12.8
	r := rand.New(rand.NewSource(3))
	var counts [4]int
	for range 60000 {
		text, _ := labels.Print(someSet(r))
		text = changed(r, text)
		got, why, at := labels.Parse(text)
		in, is := setIn(text)
		set, twice, _ := labels.Make(in)
		switch why {
		case api.OK:
			counts[0]++
			is = is && twice == api.OK && slices.Equal(got, set) && at == 0
		case api.ErrTwice:
			counts[1]++
			name := behind.FindStringSubmatch(text[at:])
			is = name != nil && strings.HasSuffix(text[:at], ",")
			if is {
				ahead, right := setIn(text[:at-1] + "}")
				_, again := labels.Get(ahead, name[1])
				_, twice, _ := labels.Make(ahead)
				is = right && again && twice == api.OK
			}
		case api.ErrLabel:
			counts[2]++
			is = isFault(text, at, func(s string) bool { _, is := setIn(s); return is })
		default:
			counts[3]++
			is = false
		}
		if !is || why != api.OK && got != nil {
			t.Fatalf("Parse(%q): %v, error %d at %d", text, got, why, at)
		}
	}
	if counts[0] < 1000 || counts[1] < 100 || counts[2] < 1000 || counts[3] != 0 {
		t.Error("texts that are right, have a name twice, are wrong:", counts)
	}
}

func TestOneText(t *testing.T) { // 12.8, P13
	r := rand.New(rand.NewSource(4))
	texts := map[string][]api.Label{}
	for range 5000 {
		l := someSet(r)
		text, why := labels.Print(l)
		if why != api.OK {
			t.Fatalf("Print(%v): error %d", l, why)
		}
		parses(t, text, l, api.OK, 0)
		if other, is := texts[text]; is && !slices.Equal(other, l) {
			t.Fatalf("%v and %v have one text", l, other)
		}
		texts[text] = l
		mixed := slices.Clone(l)
		r.Shuffle(len(mixed), func(i, j int) { mixed[i], mixed[j] = mixed[j], mixed[i] })
		shown := make([]api.Label, len(mixed))
		for i, x := range mixed {
			shown[i] = api.Label{Name: x.Name, Value: strings.NewReplacer(`\`, `\\`, `"`, `\"`, "\n", `\n`).Replace(x.Value)}
		}
		parses(t, listed(shown)+"}", l, api.OK, 0)
	}
	for i := range 0x110000 {
		if !utf8.ValidRune(rune(i)) {
			continue
		}
		l := of("a", string(rune(i)))
		text, why := labels.Print(l)
		got, e, _ := labels.Parse(text)
		if why != api.OK || e != api.OK || !slices.Equal(got, l) {
			t.Fatalf("the code point %x: %q, error %d, error %d", i, text, why, e)
		}
	}
}
