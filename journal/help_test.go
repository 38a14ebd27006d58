package journal_test

import (
	"bytes"
	"encoding/binary"
	"fmt"
	"hash/crc32"
	"math"
	"math/rand"
	"slices"
	"strings"
	"testing"
	"unsafe"

	"abacus/api"
	"abacus/journal"
)

// long is a name of as many bytes as may be.
var long = strings.Repeat("n", api.MaxName)

// odd is what is no number, by other bits than are told.
var odd = math.Float64frombits(0xfff8000000000123)

func count(name string, n int64) api.Entry {
	return api.Entry{Kind: api.EntryCount, Name: name, N: n}
}

func set(name string, x float64) api.Entry {
	return api.Entry{Kind: api.EntrySet, Name: name, X: x}
}

func see(name string, n int64) api.Entry {
	return api.Entry{Kind: api.EntrySee, Name: name, N: n}
}

func held(name string, n, sum, least, greatest int64) api.Entry {
	return api.Entry{Kind: api.EntryHeld, Name: name, N: n, Sum: sum, Least: least, Greatest: greatest}
}

func drop(name string) api.Entry {
	return api.Entry{Kind: api.EntryDrop, Name: name}
}

func counter(name string, n int64) api.Kept {
	return api.Kept{Name: name, Kind: api.MetricCounter, N: n}
}

func gauge(name string, x float64) api.Kept {
	return api.Kept{Name: name, Kind: api.MetricGauge, X: x}
}

func histogram(name string, n, sum, least, greatest int64) api.Kept {
	return api.Kept{Name: name, Kind: api.MetricHistogram, N: n, Sum: sum, Least: least, Greatest: greatest}
}

// rightEntries are entries at the edges of what may be.
func rightEntries() []api.Entry {
	l := []api.Entry{
		count("a", 0), count("a", 1), count("_", 127), count("a9", 128), count("A", 300), count(long, api.MaxHeld), count("a", api.MaxHeld-1),
		see("a", 0), see("a", 127), see("a", 128), see(long, api.MaxSeen), see("a", api.MaxSeen-1),
		held("a", 1, 0, 0, 0), held("a", 1, 5, 5, 5), held(long, api.MaxHeld, api.MaxHeld, 0, api.MaxSeen), held("a", 2, 0, api.MaxSeen, api.MaxSeen),
		held("a", 127, 128, 129, 16384), drop("a"), drop(long),
	}
	for _, x := range []float64{0, math.Copysign(0, -1), 1, -1.5, math.MaxFloat64, math.SmallestNonzeroFloat64, math.Inf(1), math.Inf(-1), math.NaN()} {
		l = append(l, set("g", x))
	}
	return l
}

// wrongEntries are entries that may not be, each for one reason.
func wrongEntries() map[string]api.Entry {
	wrong := map[string]api.Entry{
		"nothing":                     {},
		"no kind":                     {Name: "a"},
		"a kind beyond":               {Kind: api.EntryLast, Name: "a"},
		"a kind far beyond":           {Kind: 255, Name: "a", N: 1},
		"counts below 0":              count("a", -1),
		"counts too many":             count("a", api.MaxHeld+1),
		"counts the greatest":         count("a", math.MaxInt64),
		"counts the least":            count("a", math.MinInt64),
		"sees below 0":                see("a", -1),
		"sees too great a number":     see("a", api.MaxSeen+1),
		"sees what a count may have":  see("a", api.MaxHeld),
		"holds none":                  held("a", 0, 0, 0, 0),
		"holds fewer":                 held("a", -1, 0, 0, 0),
		"holds too many":              held("a", api.MaxHeld+1, 0, 0, 0),
		"holds a sum below 0":         held("a", 1, -1, 0, 0),
		"holds too great a sum":       held("a", 1, api.MaxHeld+1, 0, 0),
		"holds a least below 0":       held("a", 1, 0, -1, 0),
		"holds a least above":         held("a", 1, 0, 2, 1),
		"holds too great a number":    held("a", 1, 0, 0, api.MaxSeen+1),
		"holds two too great numbers": held("a", 1, 0, api.MaxSeen+1, api.MaxSeen+1),
	}
	for _, name := range []string{"", "9", "a b", "é", "a-b", "a:b", long + "n", strings.Repeat("n", 256), strings.Repeat("n", 256+api.MaxName), "a\x00"} {
		for _, e := range []api.Entry{count(name, 1), set(name, 1), see(name, 1), held(name, 1, 1, 1, 1), drop(name)} {
			wrong[fmt.Sprintf("kind %d of %.80q", e.Kind, name)] = e
		}
	}
	for _, e := range []api.Entry{count("a", 1), set("a", 1), see("a", 1), held("a", 1, 1, 1, 1), drop("a")} {
		for _, x := range []float64{1, math.Copysign(0, -1), math.NaN()} {
			if e.Kind != api.EntrySet {
				more := e
				more.X = x
				wrong[fmt.Sprintf("kind %d with X %v", e.Kind, x)] = more
			}
		}
		for i, field := range []func(e *api.Entry) *int64{func(e *api.Entry) *int64 { return &e.N }, func(e *api.Entry) *int64 { return &e.Sum }, func(e *api.Entry) *int64 { return &e.Least }, func(e *api.Entry) *int64 { return &e.Greatest }} {
			more := e
			if *field(&more) == 0 {
				*field(&more) = 1
				wrong[fmt.Sprintf("kind %d with field %d", e.Kind, i)] = more
			}
		}
	}
	return wrong
}

// wrongBooks are lists of metrics that may not be a book.
func wrongBooks() map[string][]api.Kept {
	wrong := map[string][]api.Kept{
		"falling":               {counter("b", 1), counter("a", 1)},
		"twice":                 {counter("a", 1), counter("a", 1)},
		"twice, of two kinds":   {counter("a", 1), gauge("a", 1)},
		"falling at the end":    {counter("a", 1), counter("c", 1), gauge("b", 1)},
		"by letters, not bytes": {counter("a", 1), counter("B", 1)},
		"one metric more":       many(api.MaxMetrics + 1),
		"far more":              many(3 * api.MaxMetrics),
	}
	for name, k := range map[string]api.Kept{
		"nothing":                  {},
		"no kind":                  {Name: "b"},
		"a summary":                {Name: "b", Kind: api.MetricSummary},
		"untyped":                  {Name: "b", Kind: api.MetricUntyped, X: 1},
		"a kind beyond":            {Name: "b", Kind: api.MetricCount},
		"no name":                  counter("", 1),
		"a name that is none":      counter("b c", 1),
		"too long a name":          gauge("b"+long, 1),
		"a counter below 0":        counter("b", -1),
		"too great a counter":      counter("b", api.MaxHeld+1),
		"a counter with a sum":     {Name: "b", Kind: api.MetricCounter, N: 1, Sum: 1},
		"a counter with a least":   {Name: "b", Kind: api.MetricCounter, N: 1, Least: 1},
		"a counter with a most":    {Name: "b", Kind: api.MetricCounter, N: 1, Greatest: 1},
		"a counter with a value":   {Name: "b", Kind: api.MetricCounter, N: 1, X: 1},
		"a counter with a -0":      {Name: "b", Kind: api.MetricCounter, N: 1, X: math.Copysign(0, -1)},
		"a gauge with a count":     {Name: "b", Kind: api.MetricGauge, N: 1},
		"a gauge with a sum":       {Name: "b", Kind: api.MetricGauge, Sum: 1},
		"a gauge with a least":     {Name: "b", Kind: api.MetricGauge, Least: 1},
		"a gauge with a most":      {Name: "b", Kind: api.MetricGauge, Greatest: 1},
		"a histogram of none":      histogram("b", 0, 0, 0, 0),
		"too great a histogram":    histogram("b", api.MaxHeld+1, 0, 0, 0),
		"a sum below 0":            histogram("b", 1, -1, 0, 0),
		"too great a sum":          histogram("b", 1, api.MaxHeld+1, 0, 0),
		"a least below 0":          histogram("b", 1, 1, -1, 0),
		"a least above":            histogram("b", 1, 1, 2, 1),
		"too great a number":       histogram("b", 1, 1, 1, api.MaxSeen+1),
		"a histogram with a value": {Name: "b", Kind: api.MetricHistogram, N: 1, X: 1},
		"a histogram with a -0":    {Name: "b", Kind: api.MetricHistogram, N: 1, X: math.Copysign(0, -1)},
	} {
		wrong[name] = []api.Kept{k}
		wrong[name+", between others"] = []api.Kept{counter("a", 1), k, counter("c", 1)}
	}
	return wrong
}

// many is a book of so many metrics.
func many(n int) []api.Kept {
	var l []api.Kept
	for i := range n {
		name := fmt.Sprintf("m%05d", i)
		switch i % 3 {
		case 0:
			l = append(l, counter(name, int64(i)))
		case 1:
			l = append(l, gauge(name, float64(i)))
		case 2:
			l = append(l, histogram(name, 2, int64(i), 1, int64(i)))
		}
	}
	return l
}

// sameEntry, sameBook tell whether entries, and books, are the same, floats by their bits as they are told.
func sameEntry(a, b api.Entry) bool {
	x, y := a.X, b.X
	a.X, b.X = 0, 0
	return a == b && sameFloat(x, y)
}

func sameKept(a, b api.Kept) bool {
	x, y := a.X, b.X
	a.X, b.X = 0, 0
	return a == b && sameFloat(x, y)
}

func sameFloat(x, y float64) bool {
	return math.IsNaN(x) && math.IsNaN(y) || math.Float64bits(x) == math.Float64bits(y)
}

func sameBook(a, b []api.Kept) bool {
	return slices.EqualFunc(a, b, sameKept)
}

func sameBytes(a, b [][]byte) bool {
	return slices.EqualFunc(a, b, bytes.Equal)
}

// framed is a record's frame, told by other means.
func framed(record []byte) []byte {
	b := binary.LittleEndian.AppendUint32(nil, uint32(len(record)))
	b = binary.LittleEndian.AppendUint32(b, crc32.Checksum(record, crc32.MakeTable(crc32.Castagnoli)))
	return append(b, record...)
}

// recorded is a right entry's record, told by other means.
func recorded(e api.Entry) []byte {
	b := append([]byte{byte(e.Kind), byte(len(e.Name))}, e.Name...)
	switch e.Kind {
	case api.EntryCount, api.EntrySee:
		b = binary.AppendUvarint(b, uint64(e.N))
	case api.EntryHeld:
		for _, n := range []int64{e.N, e.Sum, e.Least, e.Greatest} {
			b = binary.AppendUvarint(b, uint64(n))
		}
	case api.EntrySet:
		if math.IsNaN(e.X) {
			return binary.LittleEndian.AppendUint64(b, 0x7ff8000000000001)
		}
		b = binary.LittleEndian.AppendUint64(b, math.Float64bits(e.X))
	}
	return b
}

// names of which entries by chance speak.
var names = []string{"a", "b", "B", "aa", "_", "a1", "z9", long}

// someEntry is a right entry by chance.
func someEntry(r *rand.Rand) api.Entry {
	name := names[r.Intn(len(names))]
	small := int64(r.Intn(1 << uint(r.Intn(20))))
	switch r.Intn(12) {
	case 0:
		return drop(name)
	case 1, 2:
		return held(name, 1+small, small, small, 2*small)
	case 3, 4:
		return set(name, []float64{0, math.Copysign(0, -1), 2.5, math.NaN(), odd, math.Inf(-1), float64(small)}[r.Intn(7)])
	case 5, 6, 7:
		return see(name, []int64{0, api.MaxSeen, small}[r.Intn(3)])
	case 8:
		return count(name, api.MaxHeld/3)
	case 9:
		return held(name, api.MaxHeld-small%2, api.MaxHeld-small, 0, api.MaxSeen)
	}
	return count(name, small)
}

// model is a book in a map, to which entries are done as the document tells it.
type model map[string]api.Kept

func modelOf(l []api.Kept) model {
	m := model{}
	for _, k := range l {
		m[k.Name] = k
	}
	return m
}

func (m model) book() []api.Kept {
	var l []api.Kept
	for _, k := range m {
		l = append(l, k)
	}
	slices.SortFunc(l, func(a, b api.Kept) int { return strings.Compare(a.Name, b.Name) })
	return l
}

// do does a right entry.
func (m model) do(e api.Entry) api.Errno {
	kinds := map[api.EntryKind]api.MetricKind{api.EntryCount: api.MetricCounter, api.EntrySet: api.MetricGauge, api.EntrySee: api.MetricHistogram}
	k, is := m[e.Name]
	if is && e.Kind != api.EntryDrop && k.Kind != kinds[e.Kind] {
		return api.ErrKind
	}
	if e.Kind == api.EntryDrop {
		if !is {
			return api.ErrNone
		}
		delete(m, e.Name)
		return api.OK
	}
	if !is && len(m) == api.MaxMetrics {
		return api.ErrMany
	}
	switch e.Kind {
	case api.EntryCount:
		k = counter(e.Name, k.N+e.N)
	case api.EntrySet:
		k = gauge(e.Name, e.X)
	case api.EntryHeld:
		k = histogram(e.Name, e.N, e.Sum, e.Least, e.Greatest)
	case api.EntrySee:
		least, greatest := e.N, e.N
		if is {
			least, greatest = min(least, k.Least), max(greatest, k.Greatest)
		}
		k = histogram(e.Name, k.N+1, k.Sum+e.N, least, greatest)
	}
	if k.N > api.MaxHeld || k.Sum > api.MaxHeld {
		return api.ErrFull
	}
	m[e.Name] = k
	return api.OK
}

func opened(t *testing.T, size int) *journal.Journal {
	t.Helper()
	j, why := journal.New(size)
	if j == nil || why != api.OK {
		t.Fatalf("New(%d): error %d", size, why)
	}
	return j
}

func writes(t *testing.T, j *journal.Journal, l ...api.Entry) {
	t.Helper()
	for _, e := range l {
		if why := j.Write(e); why != api.OK {
			t.Fatalf("Write(%v): error %d", e, why)
		}
	}
}

func hasBook(t *testing.T, j *journal.Journal, want ...api.Kept) {
	t.Helper()
	if got := j.Book(); !sameBook(got, want) {
		t.Errorf("Book: %v, want %v", got, want)
	}
}

func hasSegments(t *testing.T, j *journal.Journal, want ...[]byte) {
	t.Helper()
	if got := j.Segments(); !sameBytes(got, want) {
		t.Errorf("Segments: %x, want %x", got, want)
	}
}

// texts hears of texts, no two of which may share memory.
type texts map[*byte]bool

// isNew tells whether a text shares no memory with those that were heard of.
func (x texts) isNew(s string) bool {
	at := unsafe.StringData(s)
	is := !x[at]
	x[at] = true
	return is
}

// spoil overwrites a list, and its spare room.
func spoil[T any](l []T, x T) {
	l = l[:cap(l)]
	for i := range l {
		l[i] = x
	}
}
