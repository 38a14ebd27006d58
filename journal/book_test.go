package journal_test

import (
	"math"
	"math/rand"
	"slices"
	"strings"
	"testing"

	"abacus/api"
	"abacus/journal"
)

func does(t *testing.T, l []api.Kept, e api.Entry, why api.Errno, want ...api.Kept) {
	t.Helper()
	if got, no := journal.Do(l, e); !sameBook(got, want) || no != why {
		t.Errorf("Do(%.300v, %v): %.300v, error %d, want %.300v, error %d", l, e, got, no, want, why)
	}
}

func TestDo(t *testing.T) { // 27.3
	old := []api.Kept{counter("c", 5), gauge("g", 1.5), histogram("h", 2, 7, 3, 4)}
	c, g, h := old[0], old[1], old[2]
	does(t, nil, count("a", 0), api.OK, counter("a", 0))
	does(t, nil, count("a", api.MaxHeld), api.OK, counter("a", api.MaxHeld))
	does(t, nil, set("a", -2), api.OK, gauge("a", -2))
	does(t, nil, set("a", odd), api.OK, gauge("a", math.NaN()))
	does(t, nil, see("a", 0), api.OK, histogram("a", 1, 0, 0, 0))
	does(t, nil, see("a", 9), api.OK, histogram("a", 1, 9, 9, 9))
	does(t, nil, held("a", 3, 9, 1, 4), api.OK, histogram("a", 3, 9, 1, 4))
	does(t, nil, drop("a"), api.ErrNone)
	does(t, old, count("c", 0), api.OK, c, g, h)
	does(t, old, count("c", 7), api.OK, counter("c", 12), g, h)
	does(t, old, set("g", 0), api.OK, c, gauge("g", 0), h)
	does(t, old, set("g", math.Copysign(0, -1)), api.OK, c, gauge("g", math.Copysign(0, -1)), h)
	does(t, old, set("g", math.NaN()), api.OK, c, gauge("g", math.NaN()), h)
	does(t, old, see("h", 3), api.OK, c, g, histogram("h", 3, 10, 3, 4))
	does(t, old, see("h", 0), api.OK, c, g, histogram("h", 3, 7, 0, 4))
	does(t, old, see("h", api.MaxSeen), api.OK, c, g, histogram("h", 3, 7+api.MaxSeen, 3, api.MaxSeen))
	does(t, old, drop("c"), api.OK, g, h)
	does(t, old, drop("g"), api.OK, c, h)
	does(t, old, drop("h"), api.OK, c, g)
	does(t, old[:1], drop("c"), api.OK)
	does(t, old, drop("d"), api.ErrNone)
	does(t, old, count("B", 1), api.OK, counter("B", 1), c, g, h)
	does(t, old, set("d", 1), api.OK, c, gauge("d", 1), g, h)
	does(t, old, held("gg", 1, 1, 1, 1), api.OK, c, g, histogram("gg", 1, 1, 1, 1), h)
	does(t, old, see("z", 1), api.OK, c, g, h, histogram("z", 1, 1, 1, 1))
}

func TestDoOfAnotherKind(t *testing.T) { // 27.3
	l := []api.Kept{counter("c", 5), gauge("g", 1.5), histogram("h", 2, 7, 3, 4)}
	for _, e := range []api.Entry{
		count("g", 1), count("h", 1), set("c", 1), set("h", 1), see("c", 1), see("g", 1),
		held("c", 1, 1, 1, 1), held("g", 1, 1, 1, 1), held("h", 1, 1, 1, 1), held("h", 2, 7, 3, 4),
		count("g", api.MaxHeld), held("h", api.MaxHeld, api.MaxHeld, 0, 0), // and more than a metric may hold
	} {
		does(t, l, e, api.ErrKind)
	}
}

func TestDoOfTooMuch(t *testing.T) { // 27.3
	full := []api.Kept{counter("c", api.MaxHeld), histogram("h", api.MaxHeld, 5, 0, 0), histogram("s", 1, api.MaxHeld, 0, 0)}
	does(t, full, count("c", 0), api.OK, full...)
	does(t, full, count("c", 1), api.ErrFull)
	does(t, full, count("c", api.MaxHeld), api.ErrFull)
	does(t, full, see("h", 0), api.ErrFull)
	does(t, full, see("s", 0), api.OK, full[0], full[1], histogram("s", 2, api.MaxHeld, 0, 0))
	does(t, full, see("s", 1), api.ErrFull)
	near := []api.Kept{counter("c", api.MaxHeld-2), histogram("h", api.MaxHeld-1, api.MaxHeld-7, 7, 7)}
	does(t, near, count("c", 2), api.OK, counter("c", api.MaxHeld), near[1])
	does(t, near, count("c", 3), api.ErrFull)
	does(t, near, see("h", 7), api.OK, near[0], histogram("h", api.MaxHeld, api.MaxHeld, 7, 7))
	does(t, near, see("h", 8), api.ErrFull)
	does(t, near, see("h", api.MaxSeen), api.ErrFull)
}

func TestDoOfTooMany(t *testing.T) { // 27.3
	all := many(api.MaxMetrics)
	for _, e := range []api.Entry{count("a", 1), set("z", 1), see("m00000a", 1), held("a", 1, 1, 1, 1)} {
		does(t, all, e, api.ErrMany)
		got, why := journal.Do(all[1:], e)
		if want := modelOf(all[1:]); why != api.OK || want.do(e) != api.OK || !sameBook(got, want.book()) {
			t.Errorf("the last one that may be, %v: %d metrics, error %d", e, len(got), why)
		}
	}
	does(t, all, drop("a"), api.ErrNone)
	does(t, all, count("m00001", 1), api.ErrKind)
	does(t, all, drop("m00000"), api.OK, all[1:]...)
	does(t, all, count("m00000", 3), api.OK, append([]api.Kept{counter("m00000", 3)}, all[1:]...)...)
}

func TestDoRefuses(t *testing.T) { // 27.3
	for name, l := range wrongBooks() {
		for _, e := range []api.Entry{count("b", 1), drop("zz"), {}, count("a", -1)} {
			if got, why := journal.Do(l, e); len(got) != 0 || why != api.ErrState {
				t.Errorf("%s: Do(.., %v): %.100v, error %d", name, e, got, why)
			}
		}
		if got, why := journal.Entries(l); len(got) != 0 || why != api.ErrState {
			t.Errorf("%s: Entries: %.100v, error %d", name, got, why)
		}
	}
	for name, e := range wrongEntries() {
		for _, l := range [][]api.Kept{nil, {counter("a", api.MaxHeld)}, {gauge("a", 1)}, many(api.MaxMetrics)} {
			if got, why := journal.Do(l, e); len(got) != 0 || why != api.ErrEntry {
				t.Errorf("%s: Do of %d metrics: %.100v, error %d", name, len(l), got, why)
			}
		}
	}
}

func TestEntries(t *testing.T) { // 27.3
	got, why := journal.Entries([]api.Kept{counter("a", 0), gauge("b", math.Copysign(0, -1)), gauge("c", math.NaN()), histogram("d", 3, 9, 1, 4), counter("e", api.MaxHeld)})
	want := []api.Entry{count("a", 0), set("b", math.Copysign(0, -1)), set("c", math.NaN()), held("d", 3, 9, 1, 4), count("e", api.MaxHeld)}
	if !slices.EqualFunc(got, want, sameEntry) || why != api.OK {
		t.Error(got, why)
	}
	for _, l := range [][]api.Kept{nil, {}} {
		if got, why := journal.Entries(l); len(got) != 0 || why != api.OK {
			t.Error("of no book:", got, why)
		}
	}
	all := many(api.MaxMetrics)
	got, why = journal.Entries(all)
	m := model{}
	for _, e := range got {
		m.do(e)
	}
	if len(got) != len(all) || why != api.OK || !sameBook(m.book(), all) {
		t.Error("of the greatest book:", len(got), why)
	}
}

func TestDoByChance(t *testing.T) { // 27.3
	r := rand.New(rand.NewSource(3))
	saw := map[api.Errno]int{}
	for range 300 {
		m := model{}
		var l []api.Kept
		for range r.Intn(80) {
			e := someEntry(r)
			next, why := journal.Do(l, e)
			want := m.do(e)
			saw[why]++
			if why != want || why != api.OK && len(next) != 0 {
				t.Fatalf("Do(%v, %v): %v, error %d, want %d", l, e, next, why, want)
			}
			if why == api.OK {
				l = next
			}
			if !sameBook(l, m.book()) {
				t.Fatalf("behind %v: %v, want %v", e, l, m.book())
			}
		}
	}
	for _, why := range []api.Errno{api.OK, api.ErrKind, api.ErrNone, api.ErrFull} {
		if saw[why] < 20 {
			t.Errorf("error %d: %d times", why, saw[why])
		}
	}
}

func TestBooksAreNewMemory(t *testing.T) { // 27.7
	names := strings.Clone("c g h new")
	l := []api.Kept{counter(names[:1], 5), gauge(names[2:3], 1), histogram(names[4:5], 1, 1, 1, 1)}
	old := slices.Clone(l)
	l = slices.Grow(l, 8)
	for _, e := range []api.Entry{count(names[6:], 2), count("c", 1), set("g", 2), drop("c"), see("h", 1)} {
		heard := texts{}
		for _, k := range l {
			heard.isNew(k.Name)
		}
		heard.isNew(e.Name)
		for range 2 {
			got, _ := journal.Do(l, e)
			for _, k := range got {
				if !heard.isNew(k.Name) {
					t.Errorf("Do(.., %v): %s is not new", e, k.Name)
				}
			}
			spoil(got, counter("spoilt", 7))
		}
		entries, _ := journal.Entries(l)
		for _, e := range entries {
			if !heard.isNew(e.Name) {
				t.Errorf("Entries: %s is not new", e.Name)
			}
		}
		spoil(entries, count("spoilt", 7))
		if !sameBook(l, old) {
			t.Fatal("what was handed in is changed:", l)
		}
	}
	for _, k := range l[:cap(l)][len(l):] {
		if k != (api.Kept{}) {
			t.Fatal("spare room was used:", k)
		}
	}
}
