package load

import (
	"testing"

	"abacus/api"
)

// done is what a load is put on, when all calls but those that skip tells have been made, some of them twice.
func done(l api.Load, times func(worker, i int) int) target {
	plan := planOf(l)
	on := onto(l, plan)
	for worker, list := range plan {
		for i, todo := range list {
			for range times(worker, i) {
				on.call(worker, todo)
			}
		}
	}
	return on
}

// What must hold is looked at: it does not, where a call was left out, or was made twice.
func TestHeld(t *testing.T) { // 28.5
	for kind := api.LoadShards; kind < api.LoadKinds; kind++ {
		for seed := range uint64(50) {
			l := api.Load{Kind: kind, Seed: seed, Workers: 3, Each: 4, Size: 20}
			plan := planOf(l)
			if on := done(l, func(int, int) int { return 1 }); !on.held() {
				t.Errorf("%v does not hold", l)
			}
			for worker, list := range plan {
				for i, todo := range list {
					changes := todo.Shard.By > 0 || todo.Snap.Kind == api.SnapPut
					for _, n := range []int{0, 2} {
						on := done(l, func(w, k int) int {
							if w == worker && k == i {
								return n
							}
							return 1
						})
						if on.held() == changes {
							t.Errorf("%v: held is %v, though call %d of worker %d was made %d times", l, on.held(), i, worker, n)
						}
					}
				}
			}
		}
	}
}

// Tokens that nobody was given, or that were given twice, are seen.
func TestHeldOfTokens(t *testing.T) { // 28.5
	for seed := range uint64(50) {
		quota := done(api.Load{Kind: api.LoadQuota, Seed: seed, Workers: 3, Each: 4, Size: 20}, func(int, int) int { return 1 }).(*onQuota)
		for _, n := range []int64{1, -1} {
			quota.give(1, n)
			if quota.held() {
				t.Error("a quota holds, though one was counted that was not taken")
			}
			quota.give(1, -n)
		}
		bucket := done(api.Load{Kind: api.LoadTokens, Seed: seed, Workers: 3, Each: 4, Size: 5}, func(int, int) int { return 1 }).(*onTokens)
		bucket.give(2, 5+3-bucket.gave()) // from 0 to 39 three come
		if !bucket.held() {
			t.Error("a bucket does not hold, though no more was given than may be")
		}
		bucket.give(0, 1)
		if bucket.held() {
			t.Error("a bucket holds, though more was given than may be")
		}
	}
}
