package labels_test

import (
	"math/rand"
	"slices"
	"strings"
	"testing"
	"unicode/utf8"
	"unsafe"

	"abacus/api"
	"abacus/labels"
)

// of are labels: names and values by turns.
func of(texts ...string) []api.Label {
	var l []api.Label
	for i := 0; i < len(texts); i += 2 {
		l = append(l, api.Label{Name: texts[i], Value: texts[i+1]})
	}
	return l
}

// many are labels with names that rise, from a number on.
func many(from, n int) []api.Label {
	var l []api.Label
	for i := range n {
		l = append(l, api.Label{Name: "n" + string(rune('A'+(from+i)/26)) + string(rune('a'+(from+i)%26)), Value: "v"})
	}
	return l
}

var (
	longest   = strings.Repeat("n", api.MaxName)
	fullest   = strings.Repeat("v", api.MaxValue)
	fullOfTwo = strings.Repeat("é", api.MaxValue/2)
)

var rightNames = []string{"a", "Z", "_", "a1", "_1", "__name__", "aZ_09", longest, "_" + longest[1:]}

var wrongNames = []string{"", "1", "1a", "a b", " a", "a ", "a-b", "a.b", "a:b", "é", "aé", "\xff", "a\x00", "a\n", "a=", "@", "[", "`", "{", "a/", "a\xc3\xa9b", longest + "n", strings.Repeat("n", 1<<16)}

func TestName(t *testing.T) { // 12.1
	for _, s := range rightNames {
		if !labels.Name(s) {
			t.Errorf("Name(%q): false", s)
		}
	}
	for _, s := range wrongNames {
		if labels.Name(s) {
			t.Errorf("Name(%.80q): true", s)
		}
	}
	for c := range 256 {
		is := c >= 'a' && c <= 'z' || c >= 'A' && c <= 'Z' || c == '_'
		if labels.Name(string([]byte{byte(c)})) != is {
			t.Errorf("Name of the byte %x: %v", c, !is)
		}
		is = is || c >= '0' && c <= '9'
		if labels.Name(string([]byte{'a', byte(c)})) != is {
			t.Errorf("Name of a and the byte %x: %v", c, !is)
		}
	}
}

var values = []struct {
	text string
	at   int
}{
	{"", 0}, {"x", -1}, {"é", -1}, {"\x00", -1}, {"\n", -1}, {`"\`, -1}, {" ", -1},
	{"\ufffd", -1}, {"a\ufffdb", -1}, {"\U0010ffff", -1}, {"\ud7ff\ue000", -1},
	{"a\xe9", 1}, {"\xed\xa0\x80", 0}, {"\xff", 0}, {"\x80", 0}, {"é\xc3", 2}, {"ab\xe2\x82", 2}, {"ab\xe2\x82x", 2}, {"\xf0\x9f\x92", 0},
	{"x\xf4\x90\x80\x80", 1}, {"\xc0\x80", 0}, {"\xe0\x80\x80", 0}, {"\xf8\x88\x80\x80\x80", 0}, {"\ufffd\xff", 3},
	{"\xef", 0}, {"\xef\xbf", 0}, {"a\xef\xbfb", 1}, {"\ufffd\xef\xbf\ufffd", 3}, // parts of the code point fffd
	{fullest, -1}, {fullOfTwo, -1}, {fullest[1:] + "x", -1},
	{fullest + "v", api.MaxValue}, {fullest[1:] + "é", api.MaxValue}, {fullest[2:] + "€", api.MaxValue}, {fullest + "é", api.MaxValue}, {strings.Repeat("é", api.MaxValue), api.MaxValue},
	{fullest[1:] + "\xff", api.MaxValue - 1}, {fullest[1:] + "\xffxyz", api.MaxValue - 1}, {fullest[1:] + "\xc3", api.MaxValue - 1}, {fullest[1:] + "\xc3x", api.MaxValue - 1}, {fullest[2:] + "\xe2\x82x", api.MaxValue - 2},
	{fullest + "\xff", api.MaxValue}, {fullest + "v\xff", api.MaxValue}, {fullest[1:] + "é\xff", api.MaxValue}, {"\xff" + fullest, 0}, {strings.Repeat("v", 1<<16) + "\xff", api.MaxValue},
}

func TestValue(t *testing.T) { // 12.1, example 3
	for _, x := range values {
		if at := labels.Value(x.text); at != x.at {
			t.Errorf("Value(%.300q): %d, want %d", x.text, at, x.at)
		}
	}
	r := rand.New(rand.NewSource(1))
	for range 20000 {
		s := bytesOfAny(r, 1+r.Intn(8))
		at := -1
		for i := range s {
			if at < 0 && !utf8.ValidString(s[:i+1]) && !goesOn(s[:i+1]) {
				at = i
				for at > 0 && !utf8.ValidString(s[:at]) { // the part begins behind the last whole character
					at--
				}
			}
		}
		if at < 0 && !utf8.ValidString(s) {
			at = len(s)
			for !utf8.ValidString(s[:at]) {
				at--
			}
		}
		if got := labels.Value(s); got != at {
			t.Fatalf("Value(%q): %d, want %d", s, got, at)
		}
	}
}

// goesOn tells whether a text that is no UTF-8 is, with up to three bytes more.
func goesOn(s string) bool {
	for _, more := range []string{"\x80", "\x80\x80", "\x80\x80\x80", "\xbf", "\xbf\xbf", "\xbf\xbf\xbf"} {
		if utf8.ValidString(s + more) {
			return true
		}
	}
	return false
}

// bytesOfAny are bytes that often are those of characters, or of parts of them.
func bytesOfAny(r *rand.Rand, n int) string {
	var b []byte
	for range n {
		b = append(b, []string{"a", "é", "€", "😀", "\xc3", "\xe2\x82", "\xf0\x9f", "\x80", "\xff", "\xed\xa0", "\ufffd"}[r.Intn(11)]...)
	}
	return string(b)
}

func TestRight(t *testing.T) { // 12.2
	for _, l := range [][]api.Label{nil, {}, of("a", "x"), of("A", "x", "_", "x", "a", "x", "a1", "x", "b", "x"), of(longest, fullest), many(0, api.MaxLabels), of("a", "\n\\\"é")} {
		if !labels.Right(l) {
			t.Errorf("Right(%v): false", l)
		}
	}
	for _, l := range [][]api.Label{of("b", "x", "a", "x"), of("a", "x", "a", "x"), of("a", "x", "a", "y"), of("a", "x", "A", "x"), many(0, api.MaxLabels+1), of("a", "x", "c", "x", "b", "x")} {
		if labels.Right(l) {
			t.Errorf("Right(%v): true", l)
		}
	}
	for _, name := range wrongNames {
		if labels.Right(of(name, "x")) || labels.Right(of("A", "x", name, "x")) {
			t.Errorf("Right with the name %.80q", name)
		}
	}
	for _, x := range values {
		if labels.Right(of("a", "x", "b", x.text)) != (x.at < 0) {
			t.Errorf("Right with the value %q: %v", x.text, x.at >= 0)
		}
	}
}

func makes(t *testing.T, l, want []api.Label, why api.Errno, at int) {
	t.Helper()
	kept := slices.Clone(l)
	if got, e, i := labels.Make(l); !slices.Equal(got, want) || e != why || i != at {
		t.Errorf("Make(%.300v): %v, error %d, %d, want %v, error %d, %d", l, got, e, i, want, why, at)
	}
	if !slices.Equal(l, kept) {
		t.Errorf("what was handed in is changed: %v, was %v", l, kept)
	}
}

func TestMake(t *testing.T) { // 12.2, example 1
	makes(t, of("b", "1", "a", "x"), of("a", "x", "b", "1"), api.OK, 0)
	makes(t, of("a", "1", "a", "2"), nil, api.ErrTwice, 1)
	makes(t, of("1a", "x"), nil, api.ErrLabel, 0)
	makes(t, of("a", ""), nil, api.ErrLabel, 0)
	makes(t, nil, nil, api.OK, 0)
	makes(t, []api.Label{}, nil, api.OK, 0)
	makes(t, of("b", "1", "_", "2", "a1", "3", "B", "4", "a", "5"), of("B", "4", "_", "2", "a", "5", "a1", "3", "b", "1"), api.OK, 0)
	makes(t, of("a", "x", "b", "y", "c", "z", "b", "y", "a", "x"), nil, api.ErrTwice, 3)
	makes(t, of("c", "x", "a", "x", "b", "x", "b", "x", "c", "x"), nil, api.ErrTwice, 3)
	makes(t, of("a", "x", "a", "x", "", "x"), nil, api.ErrLabel, 2)
	makes(t, of("a", "x", "b", "\xff", "c-", "x"), nil, api.ErrLabel, 1)
	makes(t, of("a", "x", "c-", "x", "b", "\xff"), nil, api.ErrLabel, 1)
	makes(t, of(longest, fullest), of(longest, fullest), api.OK, 0)
	makes(t, of("a", "x", longest+"n", "x"), nil, api.ErrLabel, 1)
	makes(t, of("a", "x", "b", fullest+"v"), nil, api.ErrLabel, 1)
	full := many(0, api.MaxLabels)
	makes(t, full, full, api.OK, 0)
	turned := slices.Clone(full)
	slices.Reverse(turned)
	makes(t, turned, full, api.OK, 0)
	more := many(0, api.MaxLabels+1)
	makes(t, more, nil, api.ErrMany, 0)
	makes(t, append(slices.Clip(more), more[5]), nil, api.ErrTwice, api.MaxLabels+1)
	makes(t, append(slices.Clip(more), of("a", "")...), nil, api.ErrLabel, api.MaxLabels+1)
	makes(t, append(slices.Clip(full), full[0]), nil, api.ErrTwice, api.MaxLabels)
}

func TestMakeOfVeryMany(t *testing.T) { // 12.2, P1
	var l []api.Label
	for i := range 1 << 18 {
		name := []byte("n0000000000000000000")
		for j := range 18 {
			name[1+j] += byte(i >> j & 1)
		}
		l = append(l, api.Label{Name: string(name), Value: "v"})
	}
	if got, why, at := labels.Make(l); got != nil || why != api.ErrMany || at != 0 {
		t.Errorf("%d labels, error %d, %d", len(got), why, at)
	}
	l = append(l, l[7])
	if got, why, at := labels.Make(l); got != nil || why != api.ErrTwice || at != 1<<18 {
		t.Errorf("%d labels, error %d, %d", len(got), why, at)
	}
	names := make([]string, len(l))
	for i, x := range l {
		names[i] = x.Name
	}
	if n := len(labels.Keep(l, names[:1<<17])); n != 1<<17+1 {
		t.Error("Keep:", n)
	}
	if n := len(labels.Without(l, names[:1<<17])); n != 1<<17 {
		t.Error("Without:", n)
	}
}

func gets(t *testing.T, l []api.Label, name, value string, is bool) {
	t.Helper()
	if v, ok := labels.Get(l, name); v != value || ok != is {
		t.Errorf("Get(%v, %q): %q, %v", l, name, v, ok)
	}
}

func TestGet(t *testing.T) { // 12.4
	gets(t, of("a", "x", "b", "y"), "b", "y", true)
	gets(t, of("a", "x", "b", "y"), "a", "x", true)
	gets(t, of("a", "x", "b", "y"), "c", "", false)
	gets(t, of("a", "x", "b", "y"), "", "", false)
	gets(t, of("a", "x", "b", "y"), "A", "", false)
	gets(t, nil, "a", "", false)
	gets(t, of("b", "1", "a", "2", "b", "3"), "b", "1", true) // the first, of any labels
	gets(t, of("", "1", "1-", "", "\xff", "\xfe"), "", "1", true)
	gets(t, of("", "1", "1-", "", "\xff", "\xfe"), "1-", "", true)
	gets(t, of("", "1", "1-", "", "\xff", "\xfe"), "\xff", "\xfe", true)
}

func merges(t *testing.T, a, b, want []api.Label, why api.Errno) {
	t.Helper()
	x, y := slices.Clone(a), slices.Clone(b)
	if got, e := labels.Merge(a, b); !slices.Equal(got, want) || e != why {
		t.Errorf("Merge(%v, %v): %v, error %d, want %v, error %d", a, b, got, e, want, why)
	}
	if !slices.Equal(a, x) || !slices.Equal(b, y) {
		t.Errorf("what was handed in is changed: %v, %v, was %v, %v", a, b, x, y)
	}
}

func TestMerge(t *testing.T) { // 12.4
	merges(t, of("a", "1", "c", "2"), of("b", "3", "c", "4", "d", "5"), of("a", "1", "b", "3", "c", "4", "d", "5"), api.OK)
	merges(t, nil, of("a", "1"), of("a", "1"), api.OK)
	merges(t, of("a", "1"), nil, of("a", "1"), api.OK)
	merges(t, nil, nil, nil, api.OK)
	merges(t, of("a", "1"), of("a", "2"), of("a", "2"), api.OK)
	merges(t, of("b", "1", "a", "1"), of("c", "2"), nil, api.ErrLabel)
	merges(t, of("c", "2"), of("a", "1", "a", "1"), nil, api.ErrLabel)
	merges(t, of("a", ""), nil, nil, api.ErrLabel)
	merges(t, nil, of("1", "x"), nil, api.ErrLabel)
	full := many(0, api.MaxLabels)
	merges(t, full, full, full, api.OK)
	merges(t, full[:16], full[10:], full, api.OK)
	merges(t, full, of("a", "x"), nil, api.ErrMany)
	merges(t, of("a", "x"), full, nil, api.ErrMany)
	merges(t, full, many(api.MaxLabels, api.MaxLabels), nil, api.ErrMany)
	merges(t, full, many(0, api.MaxLabels+1), nil, api.ErrLabel)
	merges(t, many(0, api.MaxLabels+1), full, nil, api.ErrLabel)
	merges(t, full, of("", "x"), nil, api.ErrLabel) // ahead of ErrMany
}

func TestKeepAndWithout(t *testing.T) { // 12.4
	any := of("c", "1", "a", "2", "c", "3", "", "4", "1-", "", "b", "5") // of any labels
	for _, x := range []struct {
		l       []api.Label
		names   []string
		keep    []api.Label
		without []api.Label
	}{
		{of("a", "1", "b", "2", "c", "3"), []string{"c", "a"}, of("a", "1", "c", "3"), of("b", "2")},
		{of("a", "1", "b", "2"), nil, nil, of("a", "1", "b", "2")},
		{of("a", "1", "b", "2"), []string{"a", "b", "a"}, of("a", "1", "b", "2"), nil},
		{of("a", "1", "b", "2"), []string{"", "ab", "A"}, nil, of("a", "1", "b", "2")},
		{nil, []string{"a"}, nil, nil},
		{nil, nil, nil, nil},
		{any, []string{"c", ""}, of("c", "1", "c", "3", "", "4"), of("a", "2", "1-", "", "b", "5")},
		{any, []string{"b", "1-", "a"}, of("a", "2", "1-", "", "b", "5"), of("c", "1", "c", "3", "", "4")},
	} {
		l, names := slices.Clone(x.l), slices.Clone(x.names)
		if got := labels.Keep(x.l, x.names); !slices.Equal(got, x.keep) {
			t.Errorf("Keep(%v, %q): %v, want %v", x.l, x.names, got, x.keep)
		}
		if got := labels.Without(x.l, x.names); !slices.Equal(got, x.without) {
			t.Errorf("Without(%v, %q): %v, want %v", x.l, x.names, got, x.without)
		}
		if !slices.Equal(x.l, l) || !slices.Equal(x.names, names) {
			t.Errorf("what was handed in is changed: %v, %q", x.l, x.names)
		}
	}
}

// rising are labels, of sets and others, each list behind those ahead of it.
var rising = [][]api.Label{
	nil,
	of("", ""),
	of("", "", "", ""),
	of("", "a"),
	of("A", "z"),
	of("a", ""),
	of("a", "1"),
	of("a", "1", "b", "1"),
	of("a", "1", "b", "1", "c", "1"),
	of("a", "1", "b", "2"),
	of("a", "1", "c", "0"),
	of("a", "10"),
	of("a", "2"),
	of("a", "é"),
	of("a", "\xff"),
	of("a ", ""),
	of("aa", "1"),
	of("b", "1"),
	of("b", "1", "a", "1"),
	of("é", ""),
}

func TestCompare(t *testing.T) { // 12.4, 12.11
	for i, a := range rising {
		for j, b := range rising {
			want := 0
			switch {
			case i < j:
				want = -1
			case i > j:
				want = 1
			}
			if got := labels.Compare(a, b); got != want {
				t.Errorf("Compare(%v, %v): %d", a, b, got)
			}
		}
	}
	if labels.Compare(nil, []api.Label{}) != 0 || labels.Compare([]api.Label{}, nil) != 0 {
		t.Error("nil and empty lists are unlike")
	}
}

// someSet is a set of few names and values.
func someSet(r *rand.Rand) []api.Label {
	var l []api.Label
	for _, name := range []string{"A", "_", "a", "a1", "b"} {
		if r.Intn(2) == 0 {
			l = append(l, api.Label{Name: name, Value: []string{"x", "y", "é\"", "\\\n", "\ufffd"}[r.Intn(5)]})
		}
	}
	return l
}

func TestSets(t *testing.T) { // 12.9, 12.11
	r := rand.New(rand.NewSource(2))
	must := func(l []api.Label, why api.Errno) []api.Label {
		t.Helper()
		if why != api.OK || !labels.Right(l) {
			t.Fatalf("%v: error %d", l, why)
		}
		return l
	}
	for range 5000 {
		a, b, c := someSet(r), someSet(r), someSet(r)
		one := must(labels.Merge(must(labels.Merge(a, b)), c))
		other := must(labels.Merge(a, must(labels.Merge(b, c))))
		if !slices.Equal(one, other) {
			t.Fatalf("Merge of %v, %v, %v: %v, %v", a, b, c, one, other)
		}
		for _, x := range one {
			want, is := labels.Get(c, x.Name)
			if !is {
				want, is = labels.Get(b, x.Name)
			}
			if !is {
				want, is = labels.Get(a, x.Name)
			}
			if !is || x.Value != want {
				t.Fatalf("Merge of %v, %v, %v: %v", a, b, c, one)
			}
		}
		for _, x := range slices.Concat(a, b, c) {
			if _, is := labels.Get(one, x.Name); !is {
				t.Fatalf("Merge of %v, %v, %v: %v", a, b, c, one)
			}
		}
		if got := must(labels.Merge(a, a)); !slices.Equal(got, a) {
			t.Fatalf("Merge of %v twice: %v", a, got)
		}
		names := []string{"a", "A", "zz", "_"}[r.Intn(3):]
		kept, left := labels.Keep(a, names), labels.Without(a, names)
		if len(kept)+len(left) != len(a) || !slices.Equal(must(labels.Merge(kept, left)), a) || !slices.Equal(must(labels.Merge(left, kept)), a) {
			t.Fatalf("%v is parted into %v and %v", a, kept, left)
		}
		x, y, z := labels.Compare(a, b), labels.Compare(b, c), labels.Compare(a, c)
		if labels.Compare(b, a) != -x || (x == 0) != slices.Equal(a, b) || x == y && z != x || x == 0 && z != y {
			t.Fatalf("Compare of %v, %v, %v: %d, %d, %d", a, b, c, x, y, z)
		}
		mixed := slices.Clone(a)
		r.Shuffle(len(mixed), func(i, j int) { mixed[i], mixed[j] = mixed[j], mixed[i] })
		makes(t, mixed, a, api.OK, 0)
	}
}

// shares tells whether two texts have memory in common.
func shares(a, b string) bool {
	return a != "" && b != "" && unsafe.StringData(a) == unsafe.StringData(b)
}

func TestNewMemory(t *testing.T) { // 12.7
	l := of("a", strings.Clone("xx"), "b", strings.Clone("yy"))
	kept := slices.Clone(l)
	answers := func() [][]api.Label {
		made, _, _ := labels.Make(l)
		merged, _ := labels.Merge(l, l)
		first, _ := labels.Merge(l, nil)
		second, _ := labels.Merge(nil, l)
		return [][]api.Label{made, merged, first, second, labels.Keep(l, []string{"a", "b"}), labels.Without(l, nil)}
	}
	for i, got := range answers() {
		if !slices.Equal(got, kept) {
			t.Fatalf("answer %d: %v", i, got)
		}
		for j := range got {
			if shares(got[j].Name, l[j].Name) || shares(got[j].Value, l[j].Value) {
				t.Errorf("answer %d has a text's memory", i)
			}
		}
		clear(got)
		_ = append(got[:0], of("q", "q", "q", "q")...)
		if !slices.Equal(l, kept) {
			t.Fatalf("answer %d shares memory: %v", i, l)
		}
	}
	for i, got := range answers() {
		if !slices.Equal(got, kept) {
			t.Errorf("answer %d shares memory with one ahead: %v", i, got)
		}
	}
	if v, _ := labels.Get(l, "a"); shares(v, l[0].Value) {
		t.Error("Get answers a text's memory")
	}
	text := `{a="xx",b="yy"}`
	got, _, _ := labels.Parse(text)
	want, _, _ := labels.ParseMatch(text)
	if shares(got[0].Name, text[1:]) || shares(got[0].Value, text[4:]) || shares(want[0].Name, text[1:]) || shares(want[0].Value, text[4:]) {
		t.Error("what is read has the text's memory")
	}
}
