package journal_test

import (
	"fmt"
	"math/rand"
	"runtime"
	"slices"
	"strings"
	"testing"
	"time"

	"abacus/api"
	"abacus/journal"
)

type lists = [][]api.Entry

func frees(t *testing.T, size int, l lists, why api.Errno, want ...api.Kept) {
	t.Helper()
	if got, no := journal.Free(size, l); !sameBook(got, want) || no != why {
		t.Errorf("Free(%d, %.200v): %.200v, error %d, want %.200v, error %d", size, l, got, no, want, why)
	}
}

func TestFree(t *testing.T) { // 27.6
	frees(t, 1, nil, api.OK)
	frees(t, 1, lists{}, api.OK)
	frees(t, 1, make(lists, api.MaxWorkers), api.OK)
	frees(t, 1, lists{nil, {count("a", 0)}}, api.OK, counter("a", 0))
	frees(t, 20, lists{{count("a", 1), see("h", 5)}, {see("h", 3), count("a", 4)}, {count("b", 7)}}, api.OK, counter("a", 5), counter("b", 7), histogram("h", 2, 8, 3, 5))
}

func TestFreeRefuses(t *testing.T) { // 27.6
	one := []api.Entry{count("a", 1)}
	tooMany := slices.Repeat(lists{one}, api.MaxWorkers+1)
	frees(t, 1, tooMany, api.ErrMany)
	frees(t, 1, make(lists, api.MaxWorkers+1), api.ErrMany)
	frees(t, 1, lists{slices.Repeat(one, api.MaxFeed+1)}, api.ErrMany)
	frees(t, 1, lists{one, slices.Repeat(one, api.MaxFeed-1), nil, one}, api.ErrMany)
	frees(t, 1, lists{slices.Repeat([]api.Entry{{}}, api.MaxFeed+1)}, api.ErrMany) // and none is right
	for name, e := range wrongEntries() {
		frees(t, 1, lists{{set("g", 1), drop("a")}, {count("full", api.MaxHeld), count("full", 1), e}}, api.ErrEntry) // and they are mixed, and too much
		if t.Failed() {
			t.Fatal(name)
		}
	}
	for _, l := range []lists{
		{{set("a", 1)}}, {{drop("a")}}, {{held("a", 1, 1, 1, 1)}}, {one, {set("b", 1)}}, {{count("a", 1), drop("a")}},
		{{count("a", 1), see("a", 1)}}, {{count("a", 1)}, {see("a", 1)}}, {{see("b", 1), count("a", 1)}, {count("c", 1), count("b", 1)}},
		{{count("a", api.MaxHeld), count("a", 1), set("b", 1)}}, // and it would be too much
	} {
		frees(t, 1, l, api.ErrMix)
	}
	frees(t, 1, lists{{count("a", api.MaxHeld)}, {count("a", 1)}}, api.ErrFull)
	frees(t, 1, lists{{count("a", api.MaxHeld-1)}, {count("a", 1)}}, api.OK, counter("a", api.MaxHeld))
	frees(t, 1, lists{{count("b", 1)}, {count("a", 1), count("a", api.MaxHeld)}, {see("c", 1)}}, api.ErrFull)
}

func TestFreeAtTheLimits(t *testing.T) { // 27.6
	frees(t, 1, lists{slices.Repeat([]api.Entry{count("a", 2)}, api.MaxFeed)}, api.OK, counter("a", 2*api.MaxFeed))
	l := make(lists, api.MaxWorkers)
	var want []api.Kept
	for i := range api.MaxMetrics {
		name := fmt.Sprintf("m%05d", i)
		e, k := count(name, int64(i)), counter(name, int64(i))
		if i%2 == 0 {
			e, k = see(name, int64(i)), histogram(name, 1, int64(i), int64(i), int64(i))
		}
		l[i%len(l)] = append(l[i%len(l)], e)
		want = append(want, k)
	}
	frees(t, api.MaxSegment, l, api.OK, want...)
	frees(t, 1, slices.Repeat(lists{{see("h", api.MaxSeen)}}, api.MaxWorkers), api.OK, histogram("h", api.MaxWorkers, api.MaxWorkers*api.MaxSeen, api.MaxSeen, api.MaxSeen))
}

func TestFreeByChance(t *testing.T) { // 27.6, P3
	r := rand.New(rand.NewSource(9))
	for range 200 {
		l := make(lists, r.Intn(9))
		m := model{}
		for i := range l {
			for range r.Intn(60) {
				e := count(fmt.Sprintf("c%d", r.Intn(5)), r.Int63n(1000))
				if r.Intn(2) == 0 {
					e = see(fmt.Sprintf("h%d", r.Intn(5)), r.Int63n(api.MaxSeen))
				}
				l[i] = append(l[i], e)
				m.do(e)
			}
		}
		frees(t, 1+r.Intn(300), l, api.OK, m.book()...)
	}
}

func TestFreeLeavesAllAsItWas(t *testing.T) { // 27.7, P4
	before := runtime.NumGoroutine()
	name := strings.Clone("name")
	l := slices.Repeat(lists{{count(name, 1), see("h", 2)}}, api.MaxWorkers)
	heard := texts{}
	heard.isNew(name)
	for range 20 {
		got, _ := journal.Free(50, l)
		for _, k := range got {
			if !heard.isNew(k.Name) {
				t.Fatal(k.Name, "is not new")
			}
		}
		spoil(got, counter("spoilt", 7))
	}
	for _, entries := range l {
		if !slices.Equal(entries, []api.Entry{count("name", 1), see("h", 2)}) {
			t.Fatal("what was handed in is changed:", entries)
		}
	}
	for tries := 0; runtime.NumGoroutine() > before; tries++ { // one that has ended is counted for a moment more
		if tries == 1000 {
			t.Fatal("goroutines are left:", runtime.NumGoroutine()-before)
		}
		time.Sleep(time.Millisecond)
	}
}
