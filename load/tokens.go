package load

import (
	"abacus/api"
	"abacus/tokens"
)

// Of the bucket: a token comes every so many nanoseconds, and it is asked at so many moments, from 0 on.
const (
	every   = 10
	moments = 40
)

func tokenOp(x, d uint64) api.TokenOp {
	at := int64(d % moments)
	if x%5 == 0 {
		return api.TokenOp{Kind: api.TokenPeek, At: at}
	}
	return api.TokenOp{Kind: api.TokenTake, At: at, N: int64(1 + x%2)}
}

// onTokens is a bucket.
type onTokens struct {
	work
	bucket *tokens.Bucket
}

func newTokens(w work) *onTokens {
	b, _ := tokens.New(every, int64(w.load.Size))
	return &onTokens{work: w, bucket: b}
}

func (o *onTokens) words() []uint64 {
	return []uint64{o.bucket.Word()}
}

func (o *onTokens) call(worker int, todo api.Todo) {
	op := todo.Token
	if op.Kind == api.TokenPeek {
		o.bucket.Peek(op.At)
		return
	}
	if took, _ := o.bucket.Take(op.At, op.N); took.Ok {
		o.give(worker, op.N)
	}
}

func (o *onTokens) held() bool {
	most, _ := tokens.Most(every, int64(o.load.Size), 0, moments-1)
	return o.gave() <= most
}

func (o *onTokens) start(todo api.Todo) operation {
	p, _ := o.bucket.Start(todo.Token)
	return tokenOperation{p, todo.Token}
}

type tokenOperation struct {
	*tokens.Pending
	op api.TokenOp
}

func (p tokenOperation) end() (int64, api.Goal) {
	took := p.Answer()
	switch {
	case p.op.Kind == api.TokenPeek:
		return took.Left, api.GoalNone
	case took.Ok:
		return 0, api.GoalNone
	}
	return took.Wait, api.GoalRefused
}
