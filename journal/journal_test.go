package journal_test

import (
	"fmt"
	"math"
	"math/rand"
	"slices"
	"strings"
	"sync"
	"testing"

	"abacus/api"
	"abacus/journal"
)

func TestSizes(t *testing.T) { // 27.4, 27.5, 27.6
	for _, size := range []int{0, -1, math.MinInt, api.MaxSegment + 1, math.MaxInt} {
		if j, why := journal.New(size); j != nil || why != api.ErrRange {
			t.Errorf("New(%d): error %d", size, why)
		}
		for _, l := range [][][]byte{nil, {{1}, {1}}, {framed([]byte{1}), nil}} {
			if j, n, why := journal.Open(size, l); j != nil || n != 0 || why != api.ErrRange {
				t.Errorf("Open(%d, %v): %d, error %d", size, l, n, why)
			}
		}
		for _, l := range [][][]api.Entry{nil, make([][]api.Entry, api.MaxWorkers+1), {{{}}}} {
			if got, why := journal.Free(size, l); len(got) != 0 || why != api.ErrRange {
				t.Errorf("Free(%d, ..): %v, error %d", size, got, why)
			}
		}
	}
	for _, size := range []int{1, 2, 1000, api.MaxSegment - 1, api.MaxSegment} {
		j := opened(t, size)
		hasBook(t, j)
		hasSegments(t, j)
		for _, l := range [][][]byte{nil, {}, {nil}, {{}}} {
			j, n, why := journal.Open(size, l)
			if j == nil || n != 0 || why != api.OK {
				t.Fatalf("Open(%d, %v): %d, error %d", size, l, n, why)
			}
			hasBook(t, j)
			hasSegments(t, j)
		}
	}
}

func TestWrite(t *testing.T) { // 27.4
	j := opened(t, 1000)
	var bytes []byte
	m := model{}
	for _, e := range []api.Entry{count("c", 1), set("g", 2), count("c", 0), see("h", 9), held("k", 3, 9, 1, 4), set("g", math.NaN()), see("h", 2), drop("c"), count("c", 3)} {
		writes(t, j, e)
		bytes = append(bytes, framed(recorded(e))...)
		m.do(e)
		hasSegments(t, j, bytes)
		hasBook(t, j, m.book()...)
	}
}

// What is refused is neither done nor written.
func TestWriteRefuses(t *testing.T) { // 27.4
	j := opened(t, 30)
	writes(t, j, count("c", 5), set("g", 1), see("h", 3), count("full", api.MaxHeld))
	book, segments := j.Book(), j.Segments()
	for name, e := range wrongEntries() {
		if why := j.Write(e); why != api.ErrEntry {
			t.Errorf("%s: error %d", name, why)
		}
	}
	for _, x := range []struct {
		e   api.Entry
		why api.Errno
	}{
		{count("g", 1), api.ErrKind}, {set("c", 1), api.ErrKind}, {see("c", 1), api.ErrKind}, {held("h", 1, 1, 1, 1), api.ErrKind}, {held("full", 1, 1, 1, 1), api.ErrKind},
		{drop("x"), api.ErrNone}, {count("full", 1), api.ErrFull}, {count("c", api.MaxHeld), api.ErrFull},
	} {
		if why := j.Write(x.e); why != x.why {
			t.Errorf("Write(%v): error %d, want %d", x.e, why, x.why)
		}
	}
	hasBook(t, j, book...)
	hasSegments(t, j, segments...)
}

func TestWriteOfTooMany(t *testing.T) { // 27.4
	j := opened(t, api.MaxSegment)
	all := many(api.MaxMetrics)
	r := rand.New(rand.NewSource(4))
	for _, i := range r.Perm(len(all)) {
		entries, _ := journal.Entries(all[i : i+1])
		writes(t, j, entries...)
	}
	hasBook(t, j, all...)
	before := j.Segments()
	for _, e := range []api.Entry{count("a", 1), set("zz", 1), see("b", 1), held("b", 1, 1, 1, 1)} {
		if why := j.Write(e); why != api.ErrMany {
			t.Errorf("Write(%v): error %d", e, why)
		}
	}
	hasSegments(t, j, before...)
	writes(t, j, drop("m00007"), count("a", 1))
	if why := j.Write(count("b", 1)); why != api.ErrMany {
		t.Error("one more again:", why)
	}
}

// Frames of one size fill a segment to the byte, or leave some over.
func TestSegmentsOfSizes(t *testing.T) { // 27.4
	frame := framed(recorded(count("a", 1)))
	for size, each := range map[int]int{1: 1, len(frame) - 1: 1, len(frame): 1, 2*len(frame) - 1: 1, 2 * len(frame): 2, 2*len(frame) + 1: 2, 3*len(frame) - 1: 2, 3 * len(frame): 3, 7 * len(frame): 7, 1000: 1000 / len(frame)} {
		j := opened(t, size)
		var want [][]byte
		for i := range 100 {
			writes(t, j, count("a", 1))
			if i%each == 0 {
				want = append(want, nil)
			}
			last := &want[len(want)-1]
			*last = append(*last, frame...)
		}
		hasSegments(t, j, want...)
	}
}

// A frame that is greater than a segment may be has one of its own; a lesser one does not go back to a segment that is not the last.
func TestSegmentsOfFramesOfManySizes(t *testing.T) { // 27.4
	small, great := count("a", 1), count(strings.Repeat("g", 40), 1)
	s, g := framed(recorded(small)), framed(recorded(great))
	j := opened(t, 2*len(s))
	writes(t, j, small, great, small, small, great, great, small)
	hasSegments(t, j, s, g, slices.Concat(s, s), g, g, s)
}

// segmentsOf are the segments of frames, told by other means.
func segmentsOf(size int, l []api.Entry) [][]byte {
	var all [][]byte
	for _, e := range l {
		f := framed(recorded(e))
		if n := len(all); n > 0 && len(all[n-1])+len(f) <= size {
			all[n-1] = append(all[n-1], f...)
		} else {
			all = append(all, f)
		}
	}
	return all
}

// written writes entries by chance, of which it answers those that were taken, and the book that each of these left.
func written(t *testing.T, r *rand.Rand, j *journal.Journal, n int) ([]api.Entry, [][]api.Kept) {
	m := modelOf(j.Book())
	var taken []api.Entry
	books := [][]api.Kept{m.book()}
	for range n {
		e := someEntry(r)
		want := m.do(e)
		if why := j.Write(e); why != want {
			t.Fatalf("Write(%v): error %d, want %d", e, why, want)
		}
		if want == api.OK {
			taken = append(taken, e)
			books = append(books, m.book())
		}
	}
	hasBook(t, j, m.book()...)
	return taken, books
}

func TestWriteByChance(t *testing.T) { // 27.4
	r := rand.New(rand.NewSource(5))
	for range 300 {
		size := 1 + r.Intn(200)
		j := opened(t, size)
		taken, _ := written(t, r, j, r.Intn(60))
		hasSegments(t, j, segmentsOf(size, taken)...)
	}
}

// A journal whose last segment is cut anywhere comes back as the entries whose frames are whole.
func TestACrash(t *testing.T) { // 27.5, 27.8
	r := rand.New(rand.NewSource(6))
	for range 60 {
		size := 1 + r.Intn(300)
		j := opened(t, size)
		taken, books := written(t, r, j, 1+r.Intn(30))
		if len(taken) == 0 {
			continue
		}
		segments := j.Segments()
		last := segments[len(segments)-1]
		for cut := range len(last) + 1 {
			segments[len(segments)-1] = last[:cut]
			left, n := cut, len(taken) // whole frames of the last segment, from its beginning on
			behind := slices.Clone(taken[len(taken)-framesOf(taken, last):])
			for i, e := range behind {
				f := len(framed(recorded(e)))
				if f > left {
					n -= len(behind) - i
					break
				}
				left -= f
			}
			back, torn, why := journal.Open(size, segments)
			if why != api.OK || torn != left {
				t.Fatalf("cut at %d: %d bytes left out, error %d, want %d", cut, torn, why, left)
			}
			hasBook(t, back, books[n]...)
			hasSegments(t, back, segmentsOf(size, taken[:n])...)
		}
	}
}

// framesOf is how many of the last entries stand in a segment.
func framesOf(l []api.Entry, segment []byte) int {
	n := 0
	for rest := len(segment); rest > 0; n++ {
		rest -= len(framed(recorded(l[len(l)-1-n])))
	}
	return n
}

// What stands behind whole frames need not be a cut one: it is left out, be it what it may.
func TestOpenOfARestOfAnyBytes(t *testing.T) { // 27.5
	one := framed(recorded(count("a", 1)))
	for _, rest := range []string{"", "\x00", "\x01\x00", strings.Repeat("\x00", 8), strings.Repeat("\xff", 100), "\x01\x00\x00\x00\x30\x43\xd0\xc2a" + string(one)} {
		j, torn, why := journal.Open(100, [][]byte{one, append(slices.Clone(one), rest...)})
		if why != api.OK || torn != len(rest) {
			t.Fatalf("%q: %d, error %d", rest, torn, why)
		}
		hasBook(t, j, counter("a", 2))
		hasSegments(t, j, one, one)
		j, torn, why = journal.Open(100, [][]byte{one, []byte(rest)})
		if why != api.OK || torn != len(rest) {
			t.Fatalf("%q alone: %d, error %d", rest, torn, why)
		}
		hasSegments(t, j, one)
		j, torn, why = journal.Open(100, [][]byte{[]byte(rest)})
		if why != api.OK || torn != len(rest) {
			t.Fatalf("nothing but %q: %d, error %d", rest, torn, why)
		}
		hasBook(t, j)
		hasSegments(t, j)
		writes(t, j, count("a", 1))
		hasSegments(t, j, one)
	}
}

func TestOpenRefuses(t *testing.T) { // 27.5
	a, g := framed(recorded(count("a", 1))), framed(recorded(set("a", 1)))
	cut := a[:len(a)-1]
	noEntry, needless := framed([]byte("no entry")), framed([]byte("\x01\x01a\x81\x00"))
	both := slices.Concat(a, g)
	full := framed(recorded(count("f", api.MaxHeld)))
	for name, x := range map[string]struct {
		l   [][]byte
		at  int
		why api.Errno
	}{
		"the first is torn":              {[][]byte{cut, a}, 0, api.ErrTorn},
		"one between is torn":            {[][]byte{a, a, append(slices.Clone(a), 0), a}, 2, api.ErrTorn},
		"two are torn":                   {[][]byte{a, cut, cut, cut}, 1, api.ErrTorn},
		"torn ahead of nothing":          {[][]byte{a, cut, nil}, 1, api.ErrTorn},
		"torn behind what is no entry":   {[][]byte{noEntry, a, cut, a}, 2, api.ErrTorn},
		"torn behind another kind":       {[][]byte{a, g, cut, a}, 2, api.ErrTorn},
		"no entry":                       {[][]byte{noEntry}, 0, api.ErrEntry},
		"no entry, behind others":        {[][]byte{a, nil, slices.Concat(a, noEntry), noEntry}, 2, api.ErrEntry},
		"no entry, and torn at the end":  {[][]byte{a, noEntry, cut}, 1, api.ErrEntry},
		"no entry in the last, torn one": {[][]byte{a, slices.Concat(noEntry, cut)}, 1, api.ErrEntry},
		"a needless byte":                {[][]byte{a, needless}, 1, api.ErrEntry},
		"another kind":                   {[][]byte{a, a, g}, 2, api.ErrEntry},
		"another kind at once":           {[][]byte{both, a}, 0, api.ErrEntry},
		"nothing to drop":                {[][]byte{a, framed(recorded(drop("b")))}, 1, api.ErrEntry},
		"more than may be held":          {[][]byte{full, framed(recorded(count("f", 0))), framed(recorded(count("f", 1)))}, 2, api.ErrEntry},
		"no entry behind another kind":   {[][]byte{a, g, noEntry}, 1, api.ErrEntry},
	} {
		for _, size := range []int{1, 1000} {
			if j, at, why := journal.Open(size, x.l); j != nil || at != x.at || why != x.why {
				t.Errorf("%s: %d, error %d, want %d, error %d", name, at, why, x.at, x.why)
			}
		}
	}
}

func TestOpenOfTooMany(t *testing.T) { // 27.5
	var b []byte
	for i := range api.MaxMetrics {
		b = append(b, framed(recorded(count(fmt.Sprintf("m%d", i), 1)))...)
	}
	more := framed(recorded(set("more", 1)))
	if j, at, why := journal.Open(1, [][]byte{b, more}); j != nil || at != 1 || why != api.ErrEntry {
		t.Error("one more:", at, why)
	}
	gone := framed(recorded(drop("m7")))
	j, torn, why := journal.Open(1, [][]byte{b, gone, more})
	if why != api.OK || torn != 0 || len(j.Book()) != api.MaxMetrics {
		t.Error("one dropped ahead:", torn, why)
	}
}

// Segments need not be such as a journal of this size would have made.
func TestOpenOfOtherSizes(t *testing.T) { // 27.5
	a := framed(recorded(count("a", 1)))
	two := slices.Concat(a, a)
	j, torn, why := journal.Open(1, [][]byte{two, nil, a, {}, two})
	if why != api.OK || torn != 0 {
		t.Fatal(torn, why)
	}
	hasBook(t, j, counter("a", 5))
	hasSegments(t, j, two, nil, a, nil, two)
	writes(t, j, count("a", 1))
	hasSegments(t, j, two, nil, a, nil, two, a)
	j, torn, why = journal.Open(3*len(a), [][]byte{a, two, nil})
	if why != api.OK || torn != 0 {
		t.Fatal(torn, why)
	}
	hasSegments(t, j, a, two)
	writes(t, j, count("a", 1), count("a", 1))
	hasSegments(t, j, a, slices.Concat(two, a), a)
}

// A journal that is opened anew goes on as if it had never been closed.
func TestAnew(t *testing.T) { // 27.9
	r := rand.New(rand.NewSource(7))
	for range 200 {
		size := 1 + r.Intn(250)
		j := opened(t, size)
		taken, _ := written(t, r, j, r.Intn(40))
		back, torn, why := journal.Open(size, j.Segments())
		if why != api.OK || torn != 0 {
			t.Fatal(torn, why)
		}
		hasBook(t, back, j.Book()...)
		hasSegments(t, back, j.Segments()...)
		more, _ := written(t, r, back, r.Intn(40))
		hasSegments(t, back, segmentsOf(size, append(taken, more...))...)
		for _, e := range more {
			writes(t, j, e)
		}
		hasBook(t, j, back.Book()...)
		hasSegments(t, j, back.Segments()...)
	}
}

func TestCompact(t *testing.T) { // 27.4, 27.10
	r := rand.New(rand.NewSource(8))
	for range 200 {
		size := 1 + r.Intn(250)
		j := opened(t, size)
		for range 3 {
			written(t, r, j, r.Intn(40))
			book := j.Book()
			if why := j.Compact(); why != api.OK {
				t.Fatal("Compact:", why)
			}
			hasBook(t, j, book...)
			entries, _ := journal.Entries(book)
			hasSegments(t, j, segmentsOf(size, entries)...)
			back, _, _ := journal.Open(size, j.Segments())
			hasBook(t, back, book...)
		}
	}
	j := opened(t, 10)
	if why := j.Compact(); why != api.OK || len(j.Segments()) != 0 {
		t.Error("of nothing:", why, j.Segments())
	}
	writes(t, j, count("a", 1), drop("a"))
	if why := j.Compact(); why != api.OK || len(j.Segments()) != 0 || len(j.Book()) != 0 {
		t.Error("of what is no more:", why, j.Segments())
	}
}

func TestExample(t *testing.T) { // examples 1, 2, 3
	f, _ := journal.Frame([]byte("a"))
	if string(f) != "\x01\x00\x00\x00\x30\x43\xd0\xc1a" || journal.Sum([]byte("123456789")) != 0xe3069283 {
		t.Errorf("%x", f)
	}
	reads(t, append(f, 1, 0), 9, api.ErrTorn, []byte("a"))
	if b, why := journal.Encode(count("a", 300)); string(b) != "\x01\x01a\xac\x02" || why != api.OK {
		t.Error(b, why)
	}
	if e, why := journal.Decode([]byte("\x01\x01a\xac\x82\x00")); e != (api.Entry{}) || why != api.ErrEntry {
		t.Error(e, why)
	}
	if e, why := journal.Decode([]byte("\x05\x01a")); e != drop("a") || why != api.OK {
		t.Error(e, why)
	}
	j := opened(t, 20)
	writes(t, j, count("a", 1), count("a", 2))
	if why := j.Write(set("a", 1)); why != api.ErrKind {
		t.Error(why)
	}
	hasBook(t, j, counter("a", 3))
	l := j.Segments()
	if len(l) != 2 || len(l[0]) != 12 || len(l[1]) != 12 {
		t.Fatal(l)
	}
	l[1] = l[1][:11]
	j, torn, why := journal.Open(20, l)
	if torn != 11 || why != api.OK {
		t.Error(torn, why)
	}
	hasBook(t, j, counter("a", 1))
	hasSegments(t, j, l[0])
}

func TestNil(t *testing.T) { // 27.7
	var j *journal.Journal
	for _, e := range []api.Entry{count("a", 1), {}} {
		if why := j.Write(e); why != api.ErrNil {
			t.Error("Write:", why)
		}
	}
	if why := j.Compact(); why != api.ErrNil {
		t.Error("Compact:", why)
	}
	hasBook(t, j)
	hasSegments(t, j)
}

func TestTwoJournalsAreApart(t *testing.T) { // P4
	a, b := opened(t, 100), opened(t, 100)
	writes(t, a, count("a", 1))
	hasBook(t, b)
	c, _, _ := journal.Open(100, a.Segments())
	writes(t, c, count("a", 1))
	hasBook(t, a, counter("a", 1))
	hasSegments(t, a, framed(recorded(count("a", 1))))
}

func TestAnswersAreNewMemory(t *testing.T) { // 27.7
	j := opened(t, 30)
	name := strings.Clone("count")
	writes(t, j, count(name, 1), set("g", 1), count("count", 2), count("count", 3))
	book, segments := j.Book(), j.Segments()
	heard := texts{}
	heard.isNew(name)
	for range 3 {
		b := j.Book()
		for _, k := range b {
			if !heard.isNew(k.Name) {
				t.Error("Book:", k.Name, "is not new")
			}
		}
		spoil(b, counter("spoilt", 7))
		l := j.Segments()
		for i, s := range l {
			spoil(s, 0xee)
			if i > 0 && l[i-1][0] != 0xee {
				t.Error("two segments share memory")
			}
		}
		spoil(l, nil)
		hasBook(t, j, book...)
		hasSegments(t, j, segments...)
	}
	// Spare room of a segment that is written on is not handed out, nor is what was handed in.
	long := slices.Grow(slices.Clone(segments[0]), 100)
	in := [][]byte{long}
	k, _, _ := journal.Open(1000, in)
	writes(t, k, count("count", 1))
	if len(in[0]) != len(segments[0]) || long[:cap(long)][len(long)] != 0 {
		t.Error("Open writes to what was handed in")
	}
	spoil(long, 0xee)
	hasSegments(t, k, append(slices.Clone(segments[0]), framed(recorded(count("count", 1)))...))
}

func TestPlainCallsByMany(t *testing.T) { // 27.7
	const workers, each = 8, 300
	j := opened(t, 100)
	var all sync.WaitGroup
	for worker := range workers {
		all.Go(func() {
			for i := range each {
				for _, e := range []api.Entry{count("c", 1), see("h", int64(i)), set(fmt.Sprintf("g%d", worker), float64(i)), count(fmt.Sprintf("x%d", worker), 1), drop(fmt.Sprintf("x%d", worker))} {
					if why := j.Write(e); why != api.OK {
						t.Errorf("Write(%v): error %d", e, why)
					}
				}
				if i%50 == worker {
					if back, torn, why := journal.Open(100, j.Segments()); why != api.OK || torn != 0 || back == nil {
						t.Errorf("what is looked at is not whole: %d, error %d", torn, why)
					}
					if j.Compact() != api.OK || len(j.Book()) == 0 {
						t.Error("Compact")
					}
				}
			}
		})
	}
	all.Wait()
	want := []api.Kept{counter("c", workers*each)}
	for worker := range workers {
		want = append(want, gauge(fmt.Sprintf("g%d", worker), each-1))
	}
	want = append(want, histogram("h", workers*each, workers*each*(each-1)/2, 0, each-1))
	hasBook(t, j, want...)
	back, _, _ := journal.Open(100, j.Segments())
	hasBook(t, back, want...)
}
