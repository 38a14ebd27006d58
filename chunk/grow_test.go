package chunk_test

import (
	"bytes"
	"math"
	"math/rand"
	"slices"
	"testing"

	"abacus/api"
	"abacus/chunk"
)

// has holds all that a chunk tells against the points that it should have.
func has(t *testing.T, c *chunk.Chunk, l []api.Dot) {
	t.Helper()
	if c.Count() != len(l) {
		t.Fatalf("Count: %d, want %d", c.Count(), len(l))
	}
	if b := c.Bytes(); !bytes.Equal(b, bytesOf(len(l), told(l))) {
		t.Fatalf("Bytes of %v: % x", l, b)
	}
	if got := slices.Collect(c.Points(math.MinInt64)); !same(got, plain(l)) {
		t.Fatalf("Points: %v, want %v", got, l)
	}
}

func opened(t *testing.T, l []api.Dot) *chunk.Chunk {
	t.Helper()
	c, why := chunk.Open(bytesOf(len(l), told(l)))
	if c == nil || why != api.OK {
		t.Fatalf("Open of the chunk of %v: error %d", l, why)
	}
	return c
}

func appends(t *testing.T, c *chunk.Chunk, p api.Dot, want api.Errno) {
	t.Helper()
	if why := c.Append(p); why != want {
		t.Fatalf("Append(%v): error %d, want %d", p, why, want)
	}
}

func TestNew(t *testing.T) { // 19.2
	c := chunk.New()
	if c == nil {
		t.Fatal("New is nil")
	}
	has(t, c, nil)
	has(t, opened(t, nil), nil)
	for _, first := range []int64{0, math.MinInt64, math.MaxInt64} { // any moment may be the first
		c := chunk.New()
		appends(t, c, api.Dot{At: first, V: 1}, api.OK)
		has(t, c, []api.Dot{{At: first, V: 1}})
	}
}

func TestAsItGrows(t *testing.T) { // 19.2, 19.5
	r := rand.New(rand.NewSource(5))
	for range 300 {
		l := some(r, 1+r.Intn(40))
		c := chunk.New()
		for i, p := range l {
			for range r.Intn(3) { // refused ones change nothing
				if i > 0 {
					ahead := l[i-1].At
					appends(t, c, api.Dot{At: ahead, V: someValue(r, 1)}, api.ErrOrder)
					if below := ahead - 1 - r.Int63n(1000); below < ahead { // it has not wrapped round
						appends(t, c, api.Dot{At: below, V: someValue(r, 1)}, api.ErrOrder)
					}
				}
			}
			appends(t, c, p, api.OK)
			if r.Intn(3) == 0 {
				has(t, c, l[:i+1])
			}
			if r.Intn(3) == 0 { // opened anew between
				c = opened(t, l[:i+1])
			}
		}
		has(t, c, l)
	}
}

func TestAppendRefuses(t *testing.T) { // 19.2, 19.5
	c := opened(t, at(3, 5))
	for _, x := range []int64{5, 4, 3, 0, -1, math.MinInt64} {
		appends(t, c, api.Dot{At: x, V: 7}, api.ErrOrder)
		has(t, c, at(3, 5))
	}
	appends(t, c, api.Dot{At: 6}, api.OK)
	appends(t, c, api.Dot{At: math.MaxInt64}, api.OK)
	appends(t, c, api.Dot{At: math.MaxInt64}, api.ErrOrder)
	appends(t, c, api.Dot{At: math.MinInt64}, api.ErrOrder)
	has(t, c, at(3, 5, 6, math.MaxInt64))
}

func TestAsManyAsMayBe(t *testing.T) { // 19.2, 19.5
	full := steady(api.MaxPoints + 1)
	last := full[api.MaxPoints]
	for name, c := range map[string]*chunk.Chunk{"opened when full": opened(t, full[:api.MaxPoints]), "with one free": opened(t, full[:api.MaxPoints-1]), "from none on": chunk.New()} {
		for _, p := range full[c.Count():api.MaxPoints] {
			appends(t, c, p, api.OK)
		}
		want := c.Bytes()
		appends(t, c, last, api.ErrMany)
		appends(t, c, api.Dot{At: last.At - 1}, api.ErrMany)
		appends(t, c, full[0], api.ErrMany) // ahead of ErrOrder
		if c.Count() != api.MaxPoints || !bytes.Equal(c.Bytes(), want) || !bytes.Equal(want, encoded(t, full[:api.MaxPoints])) {
			t.Errorf("%s: %d points", name, c.Count())
		}
	}
}

func TestPoints(t *testing.T) { // 19.2
	r := rand.New(rand.NewSource(2))
	for range 100 {
		l := some(r, 1+r.Intn(30))
		c := opened(t, l)
		froms := []int64{math.MinInt64, 0, math.MaxInt64}
		for _, p := range l {
			froms = append(froms, p.At, p.At-1, p.At+1)
		}
		for _, from := range froms {
			var want []api.Dot
			for _, p := range plain(l) {
				if p.At >= from {
					want = append(want, p)
				}
			}
			if got := slices.Collect(c.Points(from)); !same(got, want) {
				t.Fatalf("Points(%d) of %v: %v", from, l, got)
			}
			for n := range want { // till it is told to stop
				var got []api.Dot
				for p := range c.Points(from) {
					got = append(got, p)
					if len(got) == n+1 {
						break
					}
				}
				if !same(got, want[:n+1]) {
					t.Fatalf("the first %d of Points(%d): %v", n+1, from, got)
				}
			}
		}
	}
}

func TestPointsWhenItBegins(t *testing.T) { // 19.2
	c := chunk.New()
	all := c.Points(2)
	if got := slices.Collect(all); got != nil {
		t.Error("of none:", got)
	}
	l := dots(1, 1, 2, 2, 3, 3)
	for _, p := range l {
		appends(t, c, p, api.OK)
	}
	if got := slices.Collect(all); !same(got, l[1:]) { // as they are when it begins, not when it was asked for
		t.Error("of three:", got)
	}
	if got := slices.Collect(all); !same(got, l[1:]) { // it begins anew
		t.Error("again:", got)
	}
	r := rand.New(rand.NewSource(3))
	for range 200 { // what is appended meanwhile is not yielded
		l := some(r, 2+r.Intn(20))
		if len(l) < 2 {
			continue
		}
		half := 1 + r.Intn(len(l)-1)
		c := opened(t, l[:half])
		behind := l[half:]
		var got []api.Dot
		for p := range c.Points(math.MinInt64) {
			got = append(got, p)
			for range 1 + r.Intn(3) {
				if len(behind) > 0 {
					appends(t, c, behind[0], api.OK)
					behind = behind[1:]
				}
			}
		}
		if !same(got, plain(l[:half])) {
			t.Fatalf("Points, to which others were appended: %v, want %v", got, l[:half])
		}
		has(t, c, l[:len(l)-len(behind)])
	}
	n := 0
	c = opened(t, l)
	for p := range c.Points(math.MinInt64) { // one within another
		for q := range c.Points(p.At) {
			if q.At < p.At {
				t.Error("within", p, "stands", q)
			}
			n++
		}
	}
	if n != 6 {
		t.Error("one within another:", n)
	}
}

func TestPointsOfAPanic(t *testing.T) { // 19.2, P1: what is handed in may panic; nothing is held then
	c := opened(t, at(1, 2))
	func() {
		defer func() { _ = recover() }()
		for range c.Points(0) {
			panic("enough")
		}
	}()
	appends(t, c, api.Dot{At: 3}, api.OK)
	has(t, c, at(1, 2, 3))
}

func TestNil(t *testing.T) { // 19.3
	var c *chunk.Chunk
	for _, p := range at(1, 0, math.MinInt64) {
		appends(t, c, p, api.ErrNil)
	}
	if c.Count() != 0 || c.Bytes() != nil {
		t.Error("a nil chunk tells something:", c.Count(), c.Bytes())
	}
	all := c.Points(math.MinInt64)
	if all == nil {
		t.Fatal("Points of a nil chunk is nil")
	}
	for p := range all {
		t.Error("a nil chunk yields", p)
	}
}

func spoil(b []byte) {
	b = b[:cap(b)] // spare room too
	for i := range b {
		b[i] ^= 0xff
	}
}

func TestNewMemory(t *testing.T) { // 19.3
	l := dots(1, 1, 2, 2, 5, 2, 6, 7)
	want := bytesOf(len(l), told(l))
	kept := slices.Clone(l)
	b := encoded(t, l)
	spoil(b)
	if !same(l, kept) || !bytes.Equal(encoded(t, l), want) {
		t.Error("Encode changes or keeps what was handed in")
	}
	in := bytes.Clone(want)
	c, _ := chunk.Open(in)
	spoil(in)
	has(t, c, l)
	spoil(c.Bytes())
	has(t, c, l)
	appends(t, c, api.Dot{At: 9, V: 9}, api.OK)
	has(t, c, append(kept, api.Dot{At: 9, V: 9}))
	one, other := c.Bytes(), c.Bytes()
	spoil(one)
	if !bytes.Equal(other, c.Bytes()) {
		t.Error("two answers of Bytes share their memory")
	}
	early := c.Bytes()
	was := bytes.Clone(early)
	appends(t, c, api.Dot{At: 10, V: 10}, api.OK)
	if !bytes.Equal(early, was) {
		t.Error("what was answered is changed by an Append")
	}
	got, _ := chunk.Decode(want)
	again, _ := chunk.Decode(want)
	for i := range got {
		got[i] = api.Dot{}
	}
	if !same(again, l) || !bytes.Equal(want, bytesOf(len(l), told(l))) {
		t.Error("two answers of Decode share their memory, or it changes what was handed in")
	}
}

func TestTwoChunksAreApart(t *testing.T) { // P4
	a, b := chunk.New(), opened(t, at(4))
	appends(t, a, api.Dot{At: 1, V: 1}, api.OK)
	appends(t, b, api.Dot{At: 5, V: 2}, api.OK)
	appends(t, a, api.Dot{At: 2, V: 3}, api.OK)
	has(t, a, dots(1, 1, 2, 3))
	has(t, b, dots(4, 0, 5, 2))
}
