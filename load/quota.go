package load

import (
	"abacus/api"
	"abacus/quota"
)

// batch is how many a worker borrows.
const batch = 2

func quotaOp(worker int, x uint64) api.QuotaOp {
	switch x % 5 {
	case 0:
		return api.QuotaOp{Kind: api.QuotaBack, Worker: worker}
	case 1:
		return api.QuotaOp{Kind: api.QuotaLeft}
	}
	return api.QuotaOp{Kind: api.QuotaTake, Worker: worker}
}

// onQuota is a quota.
type onQuota struct {
	work
	quota *quota.Quota
}

func newQuota(w work) *onQuota {
	q, _ := quota.New(int64(w.load.Size), batch, w.load.Workers)
	return &onQuota{work: w, quota: q}
}

func (o *onQuota) words() []uint64 {
	return o.quota.All()
}

func (o *onQuota) call(worker int, todo api.Todo) {
	op := todo.Quota
	switch op.Kind {
	case api.QuotaTake:
		if is, _ := o.quota.Take(op.Worker); is {
			o.give(worker, 1)
		}
	case api.QuotaBack:
		o.quota.Back(op.Worker)
	case api.QuotaLeft:
		o.quota.Left()
	}
}

func (o *onQuota) held() bool {
	return o.gave()+o.quota.Left() == int64(o.load.Size)
}

func (o *onQuota) start(todo api.Todo) operation {
	p, _ := o.quota.Start(todo.Quota)
	return quotaOperation{p, todo.Quota}
}

type quotaOperation struct {
	*quota.Pending
	op api.QuotaOp
}

func (p quotaOperation) end() (int64, api.Goal) {
	answer := p.Answer()
	if p.op.Kind == api.QuotaTake && answer == 0 {
		return 0, api.GoalRefused
	}
	return answer, api.GoalNone
}
