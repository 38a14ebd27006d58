package load_test

import (
	"math/rand"
	"slices"
	"testing"

	"abacus/api"
	"abacus/load"
)

func TestDriveByHand(t *testing.T) { // 28.3, 28.4
	both := func(kind api.TokenKind, n int64) func(int, api.Todo) bool {
		return func(_ int, todo api.Todo) bool {
			return todo.Token.Kind == kind && todo.Token.N == n && todo.Token.At < 10
		}
	}
	l := seeded(t, api.Load{Kind: api.LoadTokens, Workers: 2, Each: 1, Size: 1}, both(api.TokenTake, 1))
	plan := planned(t, l)
	first, second := plan[0][0].Token.At, plan[1][0].Token.At
	got, why := load.Drive(l, []int{0, 1, 7, 0, -1, 1, 1, 0})
	next := uint64(first + 10)
	want := api.Ran{
		Trace: []api.Event{
			{Worker: 0, Did: api.Did{Kind: api.ActLoad, Ok: true}},
			{Worker: 1, Did: api.Did{Kind: api.ActLoad, Ok: true}},
			{Worker: 0, Did: api.Did{Kind: api.ActCas, Put: next, Ok: true}},
			{Worker: 1, Did: api.Did{Kind: api.ActCas, Saw: next, Put: next}},
			{Worker: 1, Did: api.Did{Kind: api.ActLoad, Saw: next, Put: next, Ok: true}},
		},
		Words:   []uint64{next},
		Answers: [][]int64{{0}, {max(int64(next), second) + 10 - second - 10}},
	}
	if !sameRan(got, want) || why != api.OK {
		t.Errorf("%v, error %d, want %v", got, why, want)
	}
	for n, shown := range map[int][2]bool{0: {}, 3: {}, 5: {}, 6: {true, false}, 7: {true, true}, 8: {true, true}} {
		schedule := []int{0, 1, 7, 0, -1, 1, 1, 0}[:n]
		failed, _ := load.Meets(l, schedule, api.GoalFailed)
		refused, _ := load.Meets(l, schedule, api.GoalRefused)
		if failed != shown[0] || refused != shown[1] {
			t.Errorf("%v: %v, %v", schedule, failed, refused)
		}
	}
}

// agrees holds what a schedule comes to against the second telling.
func agrees(t *testing.T, l api.Load, schedule []int) *second {
	t.Helper()
	m := driven(l, planned(t, l), schedule)
	got, why := load.Drive(l, schedule)
	if !sameRan(got, m.ran) || len(got.Answers) != l.Workers || why != api.OK {
		t.Fatalf("Drive(%v, %v): %v, error %d, want %v", l, schedule, got, why, m.ran)
	}
	for _, goal := range goals {
		if is, why := load.Meets(l, schedule, goal); is != m.shown[goal] || why != api.OK {
			t.Fatalf("Meets(%v, %v, %d): %v, error %d", l, schedule, goal, is, why)
		}
	}
	return m
}

func TestDriveOfAnySchedule(t *testing.T) { // 28.3, 28.4, 28.7
	r := rand.New(rand.NewSource(4))
	shown := [api.GoalCount]int{}
	for range 8000 {
		l := someLoad(r)
		schedule := someSchedule(r, l, r.Intn(80))
		m := agrees(t, l, schedule)
		for _, goal := range goals {
			if m.shown[goal] {
				shown[goal]++
			}
		}
		// Without the numbers that did nothing it comes to the same.
		var busy []int
		for _, e := range m.ran.Trace {
			busy = append(busy, e.Worker)
		}
		want := m.ran
		if got, _ := load.Drive(l, busy); !sameRan(got, want) {
			t.Fatalf("%v: %v comes to another end than %v", l, busy, schedule)
		}
		if again, _ := load.Drive(l, schedule); !sameRan(again, want) {
			t.Fatalf("%v: %v comes to two ends", l, schedule)
		}
		end := m.finish()
		got, why := load.Finish(l, schedule)
		if !slices.Equal(got, append(slices.Clone(schedule), end...)) || why != api.OK {
			t.Fatalf("Finish(%v, %v): %v, error %d, want %v more", l, schedule, got, why, end)
		}
		m.ran.Words = m.words
		if got, _ := load.Drive(l, got); !sameRan(got, m.ran) {
			t.Fatalf("%v: what Finish makes of %v does not end all", l, schedule)
		}
		ends(t, l, m)
	}
	for _, goal := range goals {
		if shown[goal] < 50 {
			t.Errorf("the goal %d was met %d times", goal, shown[goal])
		}
	}
}

// ends holds End against what a load has come to.
func ends(t *testing.T, l api.Load, m *second) {
	t.Helper()
	words, is, why := load.End(l)
	told := l.Kind == api.LoadShards || l.Kind == api.LoadSnap
	if why != api.OK || is != told || told && !slices.Equal(words, m.words) || !told && len(words) != 0 {
		t.Fatalf("End(%v): %v, %v, error %d, want %v", l, words, is, why, m.words)
	}
}

func TestTheGreatestLoads(t *testing.T) { // 28.3, 28.8
	for kind := api.LoadShards; kind < api.LoadKinds; kind++ {
		for _, size := range []int{1, api.MaxSize} {
			l := api.Load{Kind: kind, Seed: uint64(size), Workers: api.MaxWorkers, Each: api.MaxEach, Size: size}
			schedule, _ := load.Random(5, api.MaxWorkers, 20000)
			m := agrees(t, l, schedule)
			m.finish()
			ends(t, l, m)
			all, why := load.Finish(l, schedule)
			ran, no := load.Drive(l, all)
			if why != api.OK || no != api.OK || !slices.Equal(ran.Words, m.words) || !slices.EqualFunc(ran.Answers, m.ran.Answers, slices.Equal) {
				t.Errorf("%v: errors %d, %d", l, why, no)
			}
			for _, list := range ran.Answers {
				if len(list) != api.MaxEach {
					t.Errorf("%v: a worker has %d answers", l, len(list))
				}
			}
		}
	}
}

func TestLoadsOfNothing(t *testing.T) { // 28.3
	for kind := api.LoadShards; kind < api.LoadKinds; kind++ {
		l := api.Load{Kind: kind, Seed: 9, Workers: 3, Each: 0, Size: 4}
		m := agrees(t, l, []int{0, 1, 2, 0})
		if len(m.ran.Trace) != 0 {
			t.Error("something is done:", m.ran.Trace)
		}
		ends(t, l, m)
		if got, why := load.Finish(l, []int{2, 0}); !slices.Equal(got, []int{2, 0}) || why != api.OK {
			t.Error("Finish:", got, why)
		}
		if got, why := load.Finish(l, nil); len(got) != 0 || why != api.OK {
			t.Error("Finish of no schedule:", got, why)
		}
		l.Each = 2
		m = agrees(t, l, nil)
		if len(m.ran.Trace) != 0 {
			t.Error("something is done:", m.ran.Trace)
		}
		agrees(t, l, []int{-1, 3, 64, 1 << 40})
	}
}

func TestSchedulesAtTheLimit(t *testing.T) { // 28.3, 28.4
	l := api.Load{Kind: api.LoadSnap, Seed: 5, Workers: 2, Each: 3, Size: 1}
	most, more := make([]int, api.MaxSteps), make([]int, api.MaxSteps+1)
	if got, why := load.Drive(l, most); len(got.Answers) != 2 || len(got.Answers[0]) != 3 || why != api.OK {
		t.Error("Drive:", got, why)
	}
	if got, why := load.Drive(l, more); !isNone(got) || why != api.ErrMany {
		t.Error("Drive of one more:", got, why)
	}
	if got, why := load.Finish(l, most); len(got) <= len(most) || why != api.OK {
		t.Error("Finish:", len(got), why)
	}
	if got, why := load.Finish(l, more); len(got) != 0 || why != api.ErrMany {
		t.Error("Finish of one more:", len(got), why)
	}
	if got, why := load.Meets(l, most, api.GoalDisturbed); got || why != api.OK {
		t.Error("Meets:", got, why)
	}
	for _, goal := range []api.Goal{api.GoalNone, api.GoalFailed, api.GoalCount} { // and a goal that is none
		if got, why := load.Meets(l, more, goal); got || why != api.ErrMany {
			t.Error("Meets of one more:", got, why)
		}
		if got, why := load.Shrink(l, more, goal); len(got) != 0 || why != api.ErrMany {
			t.Error("Shrink of one more:", got, why)
		}
	}
}

func TestAnswersAreNewMemory(t *testing.T) { // 28.6
	r := rand.New(rand.NewSource(6))
	for kind := api.LoadShards; kind < api.LoadKinds; kind++ {
		l := api.Load{Kind: kind, Seed: 4, Workers: 3, Each: 5, Size: 3}
		schedule := slices.Grow(someSchedule(r, l, 40), 50)
		old := slices.Clone(schedule)
		want, _ := load.Drive(l, schedule)
		got, _ := load.Drive(l, schedule)
		for i := range got.Answers {
			spoil(got.Answers[i], 77)
			if i+1 < len(got.Answers) && !slices.Equal(got.Answers[i+1], want.Answers[i+1]) {
				t.Error("two workers' answers share memory")
			}
		}
		spoil(got.Trace, api.Event{Worker: 77})
		spoil(got.Words, 77)
		if again, _ := load.Drive(l, schedule); !sameRan(again, want) {
			t.Error("what is handed out is kept")
		}
		all, _ := load.Finish(l, schedule)
		end, _, _ := load.End(l)
		same, _, _ := load.End(l)
		spoil(end, 77)
		now, _, _ := load.End(l)
		spoil(all, 77)
		if !slices.Equal(schedule, old) || slices.ContainsFunc(schedule[:cap(schedule)][len(old):], func(n int) bool { return n != 0 }) {
			t.Error("what was handed in is changed:", schedule)
		}
		if !slices.Equal(same, now) {
			t.Error("End:", same, now)
		}
	}
}
