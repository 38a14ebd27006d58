package quant_test

import (
	"math"
	"math/rand"
	"slices"
	"strings"
	"testing"

	"abacus/api"
	"abacus/quant"
)

// shadow is a summary as the document tells it, in one list, with all the values that it was told.
type shadow struct {
	part   int64
	rows   []api.Tuple
	values []int64
}

func (s *shadow) room(n int) int64 {
	return max(1, 2*int64(n)/s.part)
}

func (s *shadow) insert(x int64) {
	at := 0
	for at < len(s.rows) && s.rows[at].Value <= x {
		at++
	}
	row := api.Tuple{Value: x, G: 1}
	if at > 0 && at < len(s.rows) {
		row.D = s.rows[at].G + s.rows[at].D - 1
	}
	s.rows = slices.Insert(s.rows, at, row)
	s.values = append(s.values, x)
	if int64(len(s.values))%(s.part/2) != 0 {
		return
	}
	for i := len(s.rows) - 2; i >= 1; i-- {
		behind := &s.rows[i+1]
		if s.rows[i].G+behind.G+behind.D <= s.room(len(s.values)) {
			behind.G += s.rows[i].G
			s.rows = slices.Delete(s.rows, i, i+1)
		}
	}
}

// query is the Value that is asked for, of the first row that is nearest.
func (s *shadow) query(num, den int64) int64 {
	part := partOf(num, den, int64(len(s.values)))
	var least, best int64
	value := int64(0)
	for i, row := range s.rows {
		least += row.G
		far := max(part-least, least+row.D-part)
		if i == 0 || far < best {
			best, value = far, row.Value
		}
	}
	return value
}

func (s *shadow) within(x int64) (int64, int64) {
	if len(s.rows) == 0 {
		return 0, 0
	}
	var least, low int64
	high := int64(len(s.values))
	for _, row := range s.rows {
		least += row.G
		if row.Value <= x {
			low = least
		} else {
			high = min(high, least+row.D-1)
			break
		}
	}
	return low, high
}

// someValues are values of a stream: in any order, rising, falling, few that come again, and the ends of all.
func someValues(r *rand.Rand, n int) []int64 {
	l := make([]int64, n)
	kind := r.Intn(6)
	for i := range l {
		switch kind {
		case 0:
			l[i] = int64(r.Uint64())
		case 1:
			l[i] = int64(i)
		case 2:
			l[i] = int64(-i)
		case 3:
			l[i] = int64(r.Intn(4))
		case 4:
			l[i] = int64(r.NormFloat64() * 10)
		case 5:
			l[i] = []int64{math.MinInt64, math.MaxInt64, 0, int64(r.Intn(100))}[r.Intn(4)]
		}
	}
	return l
}

func made(t *testing.T, part int) *quant.Summary {
	t.Helper()
	s, why := quant.New(part)
	if s == nil || why != api.OK {
		t.Fatalf("New(%d): error %d", part, why)
	}
	return s
}

func TestNew(t *testing.T) { // 11.2
	for _, part := range []int{2, 3, api.MaxPart - 1, api.MaxPart} {
		if s := made(t, part); s.Count() != 0 || len(s.Tuples()) != 0 {
			t.Errorf("New(%d): count %d, rows %v", part, s.Count(), s.Tuples())
		}
	}
	for _, part := range []int{1, 0, -1, -2, api.MaxPart + 1, math.MaxInt, math.MinInt} {
		if s, why := quant.New(part); s != nil || why != api.ErrRange {
			t.Errorf("New(%d): %v, error %d", part, s, why)
		}
	}
}

func TestExampleOfRows(t *testing.T) { // 11.2 to 11.4, examples 2, 3
	s := made(t, 2)
	for i, x := range []struct {
		value int64
		rows  []api.Tuple
		text  string
	}{
		{5, []api.Tuple{{Value: 5, G: 1}}, "2 1 5,1,0"},
		{1, []api.Tuple{{Value: 1, G: 1}, {Value: 5, G: 1}}, "2 2 1,1,0 5,1,0"},
		{3, []api.Tuple{{Value: 1, G: 1}, {Value: 5, G: 2}}, "2 3 1,1,0 5,2,0"},
	} {
		if why := s.Insert(x.value); why != api.OK || s.Count() != int64(i+1) {
			t.Errorf("Insert(%d): error %d, count %d", x.value, why, s.Count())
		}
		if !slices.Equal(s.Tuples(), x.rows) || s.Print() != x.text {
			t.Errorf("behind %d: %v, %q", x.value, s.Tuples(), s.Print())
		}
	}
	if x, why := s.Query(1, 2); x != 1 || why != api.OK {
		t.Errorf("Query(1, 2): %d, error %d", x, why)
	}
	for _, x := range [][3]int64{{3, 1, 2}, {0, 0, 0}, {5, 3, 3}, {1, 1, 2}, {4, 1, 2}, {6, 3, 3}, {math.MinInt64, 0, 0}, {math.MaxInt64, 3, 3}} {
		if a, b := s.Within(x[0]); a != x[1] || b != x[2] {
			t.Errorf("Within(%d): %d, %d, want %d, %d", x[0], a, b, x[1], x[2])
		}
	}
}

// A row that is told among others has the G and D of the one behind it; at the ends it has 0.
func TestRowsThatAreTold(t *testing.T) { // 11.2
	s, why := quant.Parse("8 40 0,1,0 10,6,4 20,3,2 25,10,0 30,10,0 40,10,0")
	if why != api.OK {
		t.Fatal("Parse: error", why)
	}
	for _, x := range []struct {
		value int64
		text  string
	}{
		{5, "8 41 0,1,0 5,1,9 10,6,4 20,3,2 25,10,0 30,10,0 40,10,0"},
		{10, "8 42 0,1,0 5,1,9 10,6,4 10,1,4 20,3,2 25,10,0 30,10,0 40,10,0"}, // behind its like
		{-3, "8 43 -3,1,0 0,1,0 5,1,9 10,6,4 10,1,4 20,3,2 25,10,0 30,10,0 40,10,0"},
		{41, "8 44 -3,1,0 0,1,0 10,7,4 20,4,2 25,10,0 30,10,0 41,11,0"}, // now rows are taken together: the room is 11
	} {
		if why := s.Insert(x.value); why != api.OK || s.Print() != x.text {
			t.Errorf("behind %d: %q, error %d, want %q", x.value, s.Print(), why, x.text)
		}
	}
}

// agree holds all that a summary tells against its shadow.
func agree(t *testing.T, s *quant.Summary, want *shadow) {
	t.Helper()
	if s.Count() != int64(len(want.values)) || !slices.Equal(s.Tuples(), want.rows) {
		t.Fatalf("of %d: count %d of %d, rows %v, want %v", want.part, s.Count(), len(want.values), s.Tuples(), want.rows)
	}
}

// holds looks whether rows keep within the room.
func holds(t *testing.T, s *quant.Summary, part int64, values []int64) {
	t.Helper()
	rows := s.Tuples()
	room := max(1, 2*int64(len(values))/part)
	var all int64
	for _, row := range rows {
		all += row.G
		if row.G+row.D > room {
			t.Fatalf("of %d at %d: a row %v, the room is %d", part, len(values), row, room)
		}
	}
	if all != int64(len(values)) || rows[0].Value != slices.Min(values) || rows[len(rows)-1].Value != slices.Max(values) {
		t.Fatalf("of %d at %d: rows %v", part, len(values), rows)
	}
}

// answers holds Query and Within against the shadow, and against all values that were told.
func answers(t *testing.T, r *rand.Rand, s *quant.Summary, want *shadow) {
	t.Helper()
	inOrder := slices.Sorted(slices.Values(want.values))
	n := int64(len(inOrder))
	half := want.room(len(inOrder)) / 2
	for range 20 {
		den := 1 + r.Int63n(1<<(1+r.Intn(30)))
		num := []int64{0, den, r.Int63n(den + 1)}[r.Intn(3)]
		x, why := s.Query(num, den)
		if why != api.OK || x != want.query(num, den) {
			t.Fatalf("Query(%d, %d) of %v: %d, error %d, want %d", num, den, want.rows, x, why, want.query(num, den))
		}
		part := partOf(num, den, n)
		first, is := slices.BinarySearch(inOrder, x)
		last, _ := slices.BinarySearchFunc(inOrder, x, func(y, x int64) int {
			if y <= x {
				return -1
			}
			return 1
		})
		if !is || int64(first)+1 > part+half || int64(last) < part-half || half > n/want.part {
			t.Fatalf("Query(%d, %d): %d has the ranks %d to %d, asked for was %d, and %d beside", num, den, x, first+1, last, part, half)
		}
		y := []int64{x, x - 1, x + 1, int64(r.Uint64()), inOrder[r.Intn(len(inOrder))]}[r.Intn(5)]
		a, b := s.Within(y)
		if c, d := want.within(y); a != c || b != d {
			t.Fatalf("Within(%d) of %v: %d, %d, want %d, %d", y, want.rows, a, b, c, d)
		}
		most := int64(0)
		for _, v := range inOrder {
			if v <= y {
				most++
			}
		}
		if most < a || most > b {
			t.Fatalf("Within(%d): %d, %d, but there are %d", y, a, b, most)
		}
	}
}

func TestAnyValues(t *testing.T) { // 11.2, 11.3, 11.6 to 11.8
	r := rand.New(rand.NewSource(2))
	for range 600 {
		part := []int{2, 3, 4, 5, 7, 10, 20, 100, 1000, api.MaxPart}[r.Intn(10)]
		s, want := made(t, part), &shadow{part: int64(part)}
		for i, x := range someValues(r, 1+r.Intn(300)) {
			if why := s.Insert(x); why != api.OK {
				t.Fatal("Insert: error", why)
			}
			want.insert(x)
			if i%7 == 0 {
				agree(t, s, want)
				holds(t, s, int64(part), want.values)
			}
		}
		agree(t, s, want)
		holds(t, s, int64(part), want.values)
		answers(t, r, s, want)
	}
}

// Of a great part many rows are kept.
func TestManyRows(t *testing.T) { // 11.2, 11.3, 11.6 to 11.8
	r := rand.New(rand.NewSource(3))
	for _, part := range []int{1500, 6000, api.MaxPart} {
		for range 6 {
			s, want := made(t, part), &shadow{part: int64(part)}
			for i, x := range someValues(r, 9000) {
				s.Insert(x)
				want.insert(x)
				if i%1000 == 0 {
					agree(t, s, want)
				}
			}
			agree(t, s, want)
			holds(t, s, int64(part), want.values)
			answers(t, r, s, want)
			again, why := quant.Parse(s.Print())
			if why != api.OK || !slices.Equal(again.Tuples(), s.Tuples()) {
				t.Fatalf("of %d: not read as it was written: error %d", part, why)
			}
			for _, x := range someValues(r, 2000) {
				again.Insert(x)
				want.insert(x)
			}
			agree(t, again, want)
		}
	}
}

func TestQueryRefused(t *testing.T) { // 11.3
	empty, some := made(t, 5), made(t, 5)
	some.Insert(3)
	var none *quant.Summary
	for _, x := range [][2]int64{{0, 0}, {1, 0}, {0, -1}, {-1, 1}, {2, 1}, {0, 1<<30 + 1}, {math.MaxInt64, math.MaxInt64}, {math.MinInt64, math.MinInt64}, {1, math.MinInt64}} {
		for s, want := range map[*quant.Summary]api.Errno{none: api.ErrNil, empty: api.ErrNone, some: api.ErrRange} {
			if v, why := s.Query(x[0], x[1]); v != 0 || why != want {
				t.Errorf("Query(%d, %d): %d, error %d, want error %d", x[0], x[1], v, why, want)
			}
		}
	}
	if v, why := empty.Query(1, 2); v != 0 || why != api.ErrNone {
		t.Errorf("of none: %d, error %d", v, why)
	}
	for _, x := range [][2]int64{{0, 1}, {1, 1}, {1 << 30, 1 << 30}, {0, 1 << 30}} {
		if v, why := some.Query(x[0], x[1]); v != 3 || why != api.OK {
			t.Errorf("Query(%d, %d): %d, error %d", x[0], x[1], v, why)
		}
	}
	if a, b := empty.Within(1); a != 0 || b != 0 {
		t.Error("Within of none:", a, b)
	}
}

// great is the text of a summary of the part 2 that has so many values, as many as may be in each row.
func great(count int64) string {
	const most = 1 << 40
	var text strings.Builder
	text.WriteString("2 " + number(count))
	for left := count; left > 0; left -= min(left, most) {
		text.WriteString(" 7," + number(min(left, most)) + ",0")
	}
	return text.String()
}

func TestFullSummary(t *testing.T) { // 11.2, 11.3
	const most = 1 << 60
	s, why := quant.Parse(great(most - 1))
	if why != api.OK {
		t.Fatal("Parse: error", why)
	}
	if why := s.Insert(9); why != api.OK || s.Count() != most {
		t.Errorf("the last one: error %d, count %d", why, s.Count())
	}
	rows := s.Tuples()
	if want := []api.Tuple{{Value: 7, G: 1 << 40}, {Value: 9, G: most - 1<<40}}; !slices.Equal(rows, want) {
		t.Errorf("rows %v", rows)
	}
	for _, x := range []int64{0, 7, 9, math.MinInt64} {
		if why := s.Insert(x); why != api.ErrMany || s.Count() != most || !slices.Equal(s.Tuples(), rows) {
			t.Errorf("one more: error %d, count %d, rows %v", why, s.Count(), s.Tuples())
		}
	}
	for _, x := range []struct{ num, den, want int64 }{{0, 1, 7}, {1, 2, 7}, {1, 1, 9}, {1<<30 - 1, 1 << 30, 9}} {
		if v, why := s.Query(x.num, x.den); v != x.want || why != api.OK {
			t.Errorf("Query(%d, %d): %d, error %d", x.num, x.den, v, why)
		}
	}
	if a, b := s.Within(7); a != 1<<40 || b != most-1 {
		t.Error("Within(7):", a, b)
	}
}

func TestNil(t *testing.T) { // 11.5, P1
	var s *quant.Summary
	if why := s.Insert(1); why != api.ErrNil {
		t.Error("Insert: error", why)
	}
	if s.Count() != 0 || len(s.Tuples()) != 0 || s.Print() != "" {
		t.Error(s.Count(), s.Tuples(), s.Print())
	}
	if v, why := s.Query(1, 2); v != 0 || why != api.ErrNil {
		t.Errorf("Query: %d, error %d", v, why)
	}
	if a, b := s.Within(1); a != 0 || b != 0 {
		t.Error("Within:", a, b)
	}
}

func TestNewMemory(t *testing.T) { // 11.5, P4
	s, other := made(t, 4), made(t, 4)
	for i := range int64(50) {
		s.Insert(i)
	}
	text := s.Print()
	l := s.Tuples()
	kept := slices.Clone(l)
	clear(l[:cap(l)][:len(l)])
	_ = append(s.Tuples(), api.Tuple{Value: 99})
	if !slices.Equal(s.Tuples(), kept) || s.Print() != text {
		t.Error("rows that were told are those that are kept")
	}
	l = s.Tuples()
	for i := range int64(50) {
		s.Insert(-i)
	}
	if !slices.Equal(l, kept) {
		t.Error("rows that were told are changed")
	}
	if other.Count() != 0 || len(other.Tuples()) != 0 {
		t.Error("two summaries are one")
	}
}
