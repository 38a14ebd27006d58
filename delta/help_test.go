package delta_test

import (
	"fmt"
	"math"
	"math/rand"
	"slices"
	"strings"
	"testing"
	"unsafe"

	"abacus/api"
	"abacus/delta"
)

// counts are keys and numbers by their words: "a 1, b 5".
func counts(words string) []api.Count {
	var l []api.Count
	for _, word := range strings.Split(words, ", ") {
		if word == "" {
			continue
		}
		var c api.Count
		if _, err := fmt.Sscan(word, &c.Key, &c.N); err != nil {
			panic(err)
		}
		l = append(l, c)
	}
	return l
}

// changes are by their words: "a 3, b 2 reset, c gone".
func changes(words string) []api.Change {
	var l []api.Change
	for _, word := range strings.Split(words, ", ") {
		if word == "" {
			continue
		}
		key, rest, _ := strings.Cut(word, " ")
		if rest == "gone" {
			l = append(l, api.Change{Key: key, Gone: true})
			continue
		}
		number, reset, _ := strings.Cut(rest, " ")
		c := api.Change{Key: key, Reset: reset == "reset"}
		if _, err := fmt.Sscan(number, &c.By); err != nil {
			panic(err)
		}
		l = append(l, c)
	}
	return l
}

// keyed are so many counts from a key's number on, each with a key of its own, by which also its number goes.
func keyed(from, n int) []api.Count {
	var l []api.Count
	for i := from; i < from+n; i++ {
		l = append(l, api.Count{Key: fmt.Sprintf("k%05d", i), N: uint64(i%5) + 1})
	}
	return l
}

// grown are so many changes from a key's number on, of those that keyed has.
func grown(from, n int) []api.Change {
	var l []api.Change
	for _, c := range keyed(from, n) {
		l = append(l, api.Change{Key: c.Key, By: c.N})
	}
	return l
}

// gone are so many changes by which keys go.
func gone(from, n int) []api.Change {
	var l []api.Change
	for _, c := range keyed(from, n) {
		l = append(l, api.Change{Key: c.Key, Gone: true})
	}
	return l
}

// long is a key of as many bytes as may be.
var long = strings.Repeat("x", api.MaxKey)

// neighbours are keys that are next to one another by their bytes.
var neighbours = []string{"\x00", "\x00\x00", " ", "A", "a", "a\x00", "a0", "a1", "a10", "a2", "aA", "aa", "b", long, "é", "\xff", "\xff\xff"}

// few are numbers of which sums do not wrap round, all of them some that may.
var (
	few = []uint64{0, 0, 1, 2, 3, 7, 1 << 40}
	all = []uint64{0, 1, 2, 3, 1 << 63, 1<<63 + 1, math.MaxUint64 - 1, math.MaxUint64}
)

// someCounts are counts by chance.
func someCounts(r *rand.Rand, numbers []uint64) []api.Count {
	var l []api.Count
	for _, key := range neighbours[:1+r.Intn(len(neighbours))] {
		if r.Intn(3) > 0 {
			l = append(l, api.Count{Key: key, N: numbers[r.Intn(len(numbers))]})
		}
	}
	return l
}

// someChanges are changes by chance.
func someChanges(r *rand.Rand, numbers []uint64) []api.Change {
	var l []api.Change
	for _, key := range neighbours[:1+r.Intn(len(neighbours))] {
		c := api.Change{Key: key, By: numbers[r.Intn(len(numbers))]}
		switch r.Intn(6) {
		case 0, 1:
			continue
		case 2:
			c.By, c.Gone = 0, true
		case 3:
			c.Reset = true
		}
		if c.By > 0 || c.Reset || c.Gone {
			l = append(l, c)
		}
	}
	return l
}

// wrongKeys are lists of keys that do not stand so.
func wrongKeys() map[string][]string {
	var many []string
	for _, c := range keyed(0, api.MaxCounts+1) {
		many = append(many, c.Key)
	}
	return map[string][]string{
		"no key":                        {""},
		"no key ahead of others":        {"", "a", "b"},
		"no key behind others":          {"a", "b", ""},
		"one byte too long":             {long + "x"},
		"one byte too long, the last":   {"a", "b", long + "x"},
		"far too long":                  {strings.Repeat("x", 1<<16)},
		"twice":                         {"a", "a"},
		"twice at the end":              {"a", "b", "b"},
		"falling":                       {"b", "a"},
		"falling at the end":            {"a", "b", "aa"},
		"by letters, not by bytes":      {"a", "B"},
		"by numbers, not by bytes":      {"a2", "a10"},
		"the longer one first":          {"a\x00", "a"},
		"what is no character first":    {"\xff", "é"},
		"one more than may be":          many,
		"one falls behind the most":     append(slices.Clone(many[1:]), many[0]),
		"the last of the most is twice": append(slices.Clone(many[:api.MaxCounts-1]), many[api.MaxCounts-2]),
	}
}

// wrongCounts are lists of counts that may not be.
func wrongCounts() map[string][]api.Count {
	wrong := map[string][]api.Count{}
	for name, keys := range wrongKeys() {
		for _, key := range keys {
			wrong[name] = append(wrong[name], api.Count{Key: key, N: 1})
		}
	}
	return wrong
}

// wrongChanges are lists of changes that may not be.
func wrongChanges() map[string][]api.Change {
	wrong := map[string][]api.Change{}
	for name, keys := range wrongKeys() {
		for i, key := range keys {
			c := api.Change{Key: key}
			switch i % 3 {
			case 0:
				c.By = 1
			case 1:
				c.Reset = true
			case 2:
				c.Gone = true
			}
			wrong[name] = append(wrong[name], c)
		}
	}
	for name, c := range map[string]api.Change{
		"nothing came of it":           {},
		"gone by a number":             {Gone: true, By: 1},
		"gone by the greatest":         {Gone: true, By: math.MaxUint64},
		"gone and begun anew":          {Gone: true, Reset: true},
		"gone and begun anew by a one": {Gone: true, Reset: true, By: 1},
	} {
		c.Key = "b"
		wrong[name] = []api.Change{c}
		wrong[name+", between others"] = []api.Change{{Key: "a", By: 1}, c, {Key: "c", Gone: true}}
		c.Key = "z"
		wrong[name+", behind many"] = append(grown(0, api.MaxCounts-1), c)
	}
	return wrong
}

// short is what is told of something, cut where it is long.
func short(x any) string {
	s := fmt.Sprintf("%q", fmt.Sprint(x))
	if len(s) > 400 {
		return s[:200] + " .. " + s[len(s)-200:]
	}
	return s
}

func diffs(t *testing.T, old, now []api.Count, why api.Errno, want ...api.Change) {
	t.Helper()
	if got, e := delta.Diff(old, now); !slices.Equal(got, want) || e != why {
		t.Errorf("Diff(%s, %s): %s, error %d, want %s, error %d", short(old), short(now), short(got), e, short(want), why)
	}
}

func applies(t *testing.T, old []api.Count, l []api.Change, why api.Errno, want ...api.Count) {
	t.Helper()
	if got, e := delta.Apply(old, l); !slices.Equal(got, want) || e != why {
		t.Errorf("Apply(%s, %s): %s, error %d, want %s, error %d", short(old), short(l), short(got), e, short(want), why)
	}
}

func adds(t *testing.T, total []api.Count, l []api.Change, why api.Errno, want ...api.Count) {
	t.Helper()
	if got, e := delta.Add(total, l); !slices.Equal(got, want) || e != why {
		t.Errorf("Add(%s, %s): %s, error %d, want %s, error %d", short(total), short(l), short(got), e, short(want), why)
	}
}

func joins(t *testing.T, a, b []api.Change, why api.Errno, want ...api.Change) {
	t.Helper()
	if got, e := delta.Join(a, b); !slices.Equal(got, want) || e != why {
		t.Errorf("Join(%s, %s): %s, error %d, want %s, error %d", short(a), short(b), short(got), e, short(want), why)
	}
}

func samePush(a, b api.Push) bool {
	return a.Source == b.Source && a.Number == b.Number && slices.Equal(a.Changes, b.Changes)
}

func sender(t *testing.T, source string) *delta.Sender {
	t.Helper()
	s, why := delta.NewSender(source)
	if s == nil || why != api.OK {
		t.Fatalf("NewSender(%.50q): error %d", source, why)
	}
	return s
}

func sends(t *testing.T, s *delta.Sender, now []api.Count, why api.Errno, want api.Push) {
	t.Helper()
	if got, e := s.Send(now); !samePush(got, want) || e != why {
		t.Errorf("Send(%s): %s, error %d, want %s, error %d", short(now), short(got), e, short(want), why)
	}
}

func acks(t *testing.T, s *delta.Sender, number uint64, want api.Errno) {
	t.Helper()
	if why := s.Acked(number); why != want {
		t.Errorf("Acked(%d): error %d, want %d", number, why, want)
	}
}

func waits(t *testing.T, s *delta.Sender, want ...api.Push) {
	t.Helper()
	if got := s.Waiting(); !slices.EqualFunc(got, want, samePush) {
		t.Errorf("Waiting: %s, want %s", short(got), short(want))
	}
}

func push(source string, number uint64, l []api.Change) api.Push {
	return api.Push{Source: source, Number: number, Changes: l}
}

func takes(t *testing.T, r *delta.Receiver, p api.Push, want uint64, why api.Errno) {
	t.Helper()
	if got, e := r.Take(p); got != want || e != why {
		t.Errorf("Take(%s): %d, error %d, want %d, error %d", short(p), got, e, want, why)
	}
}

func totals(t *testing.T, r *delta.Receiver, source string, number uint64, is bool, want ...api.Count) {
	t.Helper()
	if got, n, known := r.Total(source); !slices.Equal(got, want) || n != number || known != is {
		t.Errorf("Total(%.50q): %s, %d, %v, want %s, %d, %v", source, short(got), n, known, short(want), number, is)
	}
}

func sums(t *testing.T, r *delta.Receiver, want ...api.Count) {
	t.Helper()
	if got := r.All(); !slices.Equal(got, want) {
		t.Errorf("All: %s, want %s", short(got), short(want))
	}
}

// texts hears of texts, no two of which may share memory.
type texts map[*byte]bool

// areApart tells whether texts share no memory with one another, or with those that were heard of.
func (x texts) areApart(l ...string) bool {
	apart := true
	for _, s := range l {
		apart = apart && !x[unsafe.StringData(s)]
		x[unsafe.StringData(s)] = true
	}
	return apart
}

func keysOf(l []api.Count) []string {
	var keys []string
	for _, c := range l {
		keys = append(keys, c.Key)
	}
	return keys
}

func keysOfChanges(l []api.Change) []string {
	var keys []string
	for _, c := range l {
		keys = append(keys, c.Key)
	}
	return keys
}

// freshCounts, freshChanges are lists whose keys are of new memory.
func freshCounts(l []api.Count) []api.Count {
	var all []api.Count
	for _, c := range l {
		c.Key = strings.Clone(c.Key)
		all = append(all, c)
	}
	return all
}

func freshChanges(l []api.Change) []api.Change {
	var all []api.Change
	for _, c := range l {
		c.Key = strings.Clone(c.Key)
		all = append(all, c)
	}
	return all
}

// spoilCounts, spoilChanges, spoilPushes overwrite lists, and their spare room.
func spoilCounts(l []api.Count) {
	l = l[:cap(l)]
	for i := range l {
		l[i] = api.Count{Key: "spoilt", N: 77}
	}
}

func spoilChanges(l []api.Change) {
	l = l[:cap(l)]
	for i := range l {
		l[i] = api.Change{Key: "spoilt", By: 77}
	}
}

func spoilPushes(l []api.Push) {
	for _, p := range l {
		spoilChanges(p.Changes)
	}
	l = l[:cap(l)]
	for i := range l {
		l[i] = api.Push{Source: "spoilt", Number: 77}
	}
}
