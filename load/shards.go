package load

import (
	"abacus/api"
	"abacus/shards"
)

func shardOp(worker int, x, d uint64) api.ShardOp {
	switch x % 4 {
	case 2:
		return api.ShardOp{Kind: api.ShardSum}
	case 3:
		return api.ShardOp{Kind: api.ShardRead, Worker: worker}
	}
	return api.ShardOp{Kind: api.ShardAdd, Worker: worker, By: 1 + d%9}
}

// onShards is a counter.
type onShards struct {
	work
	counter *shards.Counter
	added   uint64 // by operations that were stepped
}

func newShards(w work) *onShards {
	c, _ := shards.New(w.load.Size)
	return &onShards{work: w, counter: c}
}

func (o *onShards) words() []uint64 {
	return o.counter.All()
}

func (o *onShards) call(_ int, todo api.Todo) {
	op := todo.Shard
	switch op.Kind {
	case api.ShardAdd:
		o.counter.Add(op.Worker, op.By)
	case api.ShardRead:
		o.counter.Read(op.Worker)
	case api.ShardSum:
		o.counter.Sum()
	}
}

func (o *onShards) held() bool {
	var sum uint64
	o.each(func(_ int, todo api.Todo) {
		sum += todo.Shard.By
	})
	return o.counter.Sum() == sum
}

func (o *onShards) start(todo api.Todo) operation {
	p, _ := o.counter.Start(todo.Shard)
	ahead := o.added
	o.added += todo.Shard.By // an Add has but its first action
	return shardOperation{p, todo.Shard, ahead}
}

type shardOperation struct {
	*shards.Pending
	op    api.ShardOp
	ahead uint64 // what had been added ahead of its first action
}

func (p shardOperation) end() (int64, api.Goal) {
	sum := p.Answer()
	if p.op.Kind == api.ShardSum && sum != p.ahead {
		return int64(sum), api.GoalCrossed
	}
	return int64(sum), api.GoalNone
}
