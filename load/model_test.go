package load_test

import (
	"iter"

	"abacus/api"
)

// A script is an operation, told as its chapter tells it, from its first action to its answer.
type script func(do func(api.Act) api.Did) int64

// played is a script that is done action by action.
type played struct {
	todo   api.Todo
	ask    func() (api.Act, bool)
	stop   func()
	want   api.Act // its next action, unless it has ended
	did    api.Did
	answer int64
	ended  bool
	ahead  uint64 // what had been added when it began
}

type stopped struct{}

func play(todo api.Todo, s script) *played {
	p := &played{todo: todo}
	p.ask, p.stop = iter.Pull(func(yield func(api.Act) bool) {
		defer func() {
			if x := recover(); x != nil && x != (stopped{}) {
				panic(x)
			}
		}()
		p.answer = s(func(a api.Act) api.Did {
			if !yield(a) {
				panic(stopped{})
			}
			return p.did
		})
	})
	p.next()
	return p
}

func (p *played) next() {
	act, is := p.ask()
	p.want, p.ended = act, !is
}

// second is a load that is done by a schedule, on plain words.
type second struct {
	load  api.Load
	plan  [][]api.Todo
	words []uint64
	now   []*played
	ran   api.Ran
	added uint64
	shown [api.GoalCount]bool
}

func newSecond(l api.Load, plan [][]api.Todo) *second {
	m := &second{load: l, plan: plan, now: make([]*played, l.Workers)}
	m.ran.Answers = make([][]int64, l.Workers)
	switch l.Kind {
	case api.LoadShards:
		m.words = make([]uint64, l.Size)
	case api.LoadTokens:
		m.words = make([]uint64, 1)
	case api.LoadQuota:
		m.words = make([]uint64, l.Workers+1)
		m.words[0] = uint64(l.Size)
	case api.LoadSnap:
		m.words = make([]uint64, l.Workers)
	}
	return m
}

// close ends what is under way.
func (m *second) close() {
	for _, p := range m.now {
		if p != nil {
			p.stop()
		}
	}
}

func (m *second) do(a api.Act) api.Did {
	had := m.words[a.Cell]
	d := api.Did{Kind: a.Kind, Cell: a.Cell, Saw: had, Put: had, Ok: true}
	switch a.Kind {
	case api.ActAdd:
		d.Put = had + a.New
	case api.ActSwap:
		d.Put = a.New
	case api.ActCas:
		if d.Ok = had == a.Old; d.Ok {
			d.Put = a.New
		}
	}
	m.words[a.Cell] = d.Put
	return d
}

// step does a worker's next action, if there is one.
func (m *second) step(worker int) bool {
	if worker < 0 || worker >= m.load.Workers {
		return false
	}
	if m.now[worker] == nil {
		n := len(m.ran.Answers[worker])
		if n == len(m.plan[worker]) {
			return false
		}
		m.now[worker] = play(m.plan[worker][n], m.script(m.plan[worker][n]))
		m.now[worker].ahead = m.added
	}
	p := m.now[worker]
	p.did = m.do(p.want)
	m.ran.Trace = append(m.ran.Trace, api.Event{Worker: worker, Did: p.did})
	if p.did.Kind == api.ActCas && !p.did.Ok {
		m.shown[api.GoalFailed] = true
	}
	p.next()
	if p.ended {
		m.end(worker, p)
	}
	return true
}

func (m *second) end(worker int, p *played) {
	m.ran.Answers[worker] = append(m.ran.Answers[worker], p.answer)
	m.now[worker] = nil
	m.added += p.todo.Shard.By
	t := p.todo
	switch {
	case t.Token.Kind == api.TokenTake && p.answer != 0, t.Quota.Kind == api.QuotaTake && p.answer == 0:
		m.shown[api.GoalRefused] = true
	case t.Snap.Kind == api.SnapScan && p.answer < 0:
		m.shown[api.GoalDisturbed] = true
	case t.Shard.Kind == api.ShardSum && uint64(p.answer) != p.ahead:
		m.shown[api.GoalCrossed] = true
	}
}

func (m *second) script(t api.Todo) script {
	switch t.Kind {
	case api.LoadShards:
		return m.shard(t.Shard)
	case api.LoadTokens:
		return m.token(t.Token)
	case api.LoadQuota:
		return m.quota(t.Quota)
	}
	return m.snap(t.Snap)
}

func look(do func(api.Act) api.Did, cell int) uint64 {
	return do(api.Act{Kind: api.ActLoad, Cell: cell}).Saw
}

func (m *second) shard(op api.ShardOp) script {
	return func(do func(api.Act) api.Did) int64 {
		own := op.Worker % len(m.words)
		switch op.Kind {
		case api.ShardAdd:
			return int64(do(api.Act{Kind: api.ActAdd, Cell: own, New: op.By}).Put)
		case api.ShardRead:
			return int64(look(do, own))
		}
		var sum uint64
		for i := range m.words {
			sum += look(do, i)
		}
		return int64(sum)
	}
}

func (m *second) token(op api.TokenOp) script {
	return func(do func(api.Act) api.Did) int64 {
		depth := int64(m.load.Size) * 10
		for {
			word := look(do, 0)
			from := max(int64(word), op.At)
			if op.Kind == api.TokenPeek {
				return max(0, (op.At+depth-from)/10)
			}
			next := from + op.N*10
			switch {
			case op.N > int64(m.load.Size):
				return -1
			case next > op.At+depth:
				return next - op.At - depth
			}
			if do(api.Act{Kind: api.ActCas, Old: word, New: uint64(next)}).Ok {
				return 0
			}
		}
	}
}

func (m *second) quota(op api.QuotaOp) script {
	return func(do func(api.Act) api.Did) int64 {
		own := op.Worker + 1
		switch op.Kind {
		case api.QuotaBack:
			had := do(api.Act{Kind: api.ActSwap, Cell: own}).Saw
			if had > 0 {
				do(api.Act{Kind: api.ActAdd, New: had})
			}
			return int64(had)
		case api.QuotaLeft:
			var sum uint64
			for i := range m.words {
				sum += look(do, i)
			}
			return int64(sum)
		}
		for {
			holds := look(do, own)
			if holds == 0 {
				break
			}
			if do(api.Act{Kind: api.ActCas, Cell: own, Old: holds, New: holds - 1}).Ok {
				return 1
			}
		}
		for {
			pool := look(do, 0)
			if pool == 0 {
				return 0
			}
			b := min(2, pool)
			if do(api.Act{Kind: api.ActCas, Old: pool, New: pool - b}).Ok {
				if b > 1 {
					do(api.Act{Kind: api.ActAdd, Cell: own, New: b - 1})
				}
				return 1
			}
		}
	}
}

func (m *second) snap(op api.SnapOp) script {
	return func(do func(api.Act) api.Did) int64 {
		if op.Kind == api.SnapPut {
			for {
				word := look(do, op.Reg)
				next := (word>>32+1)<<32 | uint64(op.Value)
				if do(api.Act{Kind: api.ActCas, Cell: op.Reg, Old: word, New: next}).Ok {
					return int64(next)
				}
			}
		}
		var ahead []uint64
		for collects := int64(1); ; collects++ {
			var words []uint64
			same := collects > 1
			for i := range m.words {
				words = append(words, look(do, i))
				same = same && words[i] == ahead[i]
			}
			if same {
				return collects
			}
			if collects == 3 {
				return -collects
			}
			ahead = words
		}
	}
}

// finish ends all, worker by worker: whose actions that took.
func (m *second) finish() []int {
	var l []int
	for worker := range m.load.Workers {
		for m.step(worker) {
			l = append(l, worker)
		}
	}
	return l
}

// driven is what a schedule comes to.
func driven(l api.Load, plan [][]api.Todo, schedule []int) *second {
	m := newSecond(l, plan)
	for _, worker := range schedule {
		m.step(worker)
	}
	m.ran.Words = m.words
	return m
}

// shrunk is a schedule that was shrunk as the document tells it, each number tried from the left again and again.
func shrunk(l api.Load, plan [][]api.Todo, schedule []int, goal api.Goal) []int {
	left := append([]int{}, schedule...)
	for i := 0; i < len(left); i++ {
		rest := append(append([]int{}, left[:i]...), left[i+1:]...)
		m := driven(l, plan, rest)
		m.close()
		if m.shown[goal] {
			left, i = rest, -1
		}
	}
	return left
}
