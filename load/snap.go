package load

import (
	"slices"

	"abacus/api"
	"abacus/snap"
)

// tries is how many collects a scan makes at most.
const tries = 3

func snapOp(worker int, x, d uint64) api.SnapOp {
	if x%3 == 0 {
		return api.SnapOp{Kind: api.SnapScan, Tries: tries}
	}
	return api.SnapOp{Kind: api.SnapPut, Reg: worker, Value: uint32(d % 100)}
}

// onSnap is registers, one a worker.
type onSnap struct {
	work
	regs *snap.Regs
}

func newSnap(w work) *onSnap {
	g, _ := snap.New(w.load.Workers)
	return &onSnap{work: w, regs: g}
}

func (o *onSnap) words() []uint64 {
	var l []uint64
	for _, r := range o.regs.All() {
		l = append(l, wordOf(r))
	}
	return l
}

// wordOf is the word in which a register has its number and its value.
func wordOf(r api.Reg) uint64 {
	return uint64(r.Number)<<32 | uint64(r.Value)
}

func (o *onSnap) call(_ int, todo api.Todo) {
	op := todo.Snap
	if op.Kind == api.SnapScan {
		o.regs.Scan(op.Tries)
		return
	}
	o.regs.Put(op.Reg, op.Value)
}

func (o *onSnap) held() bool {
	want := make([]api.Reg, o.load.Workers)
	o.each(func(worker int, todo api.Todo) {
		if op := todo.Snap; op.Kind == api.SnapPut {
			want[worker] = api.Reg{Number: want[worker].Number + 1, Value: op.Value}
		}
	})
	return slices.Equal(o.regs.All(), want)
}

func (o *onSnap) start(todo api.Todo) operation {
	p, _ := o.regs.Start(todo.Snap)
	return snapOperation{p, todo.Snap}
}

type snapOperation struct {
	*snap.Pending
	op api.SnapOp
}

func (p snapOperation) end() (int64, api.Goal) {
	view := p.Answer()
	switch {
	case p.op.Kind == api.SnapPut:
		return int64(wordOf(view.Regs[0])), api.GoalNone
	case view.Clean:
		return int64(view.Collects), api.GoalNone
	}
	return -int64(view.Collects), api.GoalDisturbed
}
