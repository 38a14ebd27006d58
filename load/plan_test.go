package load_test

import (
	"math"
	"math/big"
	"math/rand"
	"slices"
	"testing"

	"abacus/api"
	"abacus/load"
)

func TestNext(t *testing.T) { // 28.1
	for seed, want := range map[uint64][]uint64{
		0:       {0xe220a8397b1dcdaf, 0x6e789e6aa1b965f4, 0x06c45d188009454f, 0xf88bb8a8724c81ec, 0x1b39896a51a8749b},
		1234567: {6457827717110365317, 3203168211198807973, 9817491932198370423, 4593380528125082431, 16408922859458223821},
	} {
		s := seed
		for i, x := range want {
			got, next := load.Next(s)
			if got != x || next != s+0x9e3779b97f4a7c15 {
				t.Errorf("number %d of the seed %d: %x, then %x", i, seed, got, next)
			}
			s = next
		}
	}
}

// nextByWhole is Next by whole numbers of any size.
func nextByWhole(seed uint64) (uint64, uint64) {
	whole := func(x uint64) *big.Int { return new(big.Int).SetUint64(x) }
	round := new(big.Int).Lsh(big.NewInt(1), 64)
	next := new(big.Int).Add(whole(seed), whole(0x9e3779b97f4a7c15))
	next.Mod(next, round)
	z := new(big.Int).Set(next)
	for _, x := range []struct {
		shift uint
		by    uint64
	}{{30, 0xbf58476d1ce4e5b9}, {27, 0x94d049bb133111eb}, {31, 1}} {
		z.Xor(z, new(big.Int).Rsh(z, x.shift))
		z.Mod(z.Mul(z, whole(x.by)), round)
	}
	return z.Uint64(), next.Uint64()
}

func TestNextOfAnySeed(t *testing.T) { // 28.1
	r := rand.New(rand.NewSource(1))
	seeds := []uint64{0, 1, math.MaxUint64, 1 << 63, 1<<63 - 1, -0x9e3779b97f4a7c15 & math.MaxUint64}
	for range 10000 {
		seeds = append(seeds, r.Uint64())
	}
	for _, seed := range seeds {
		x, next := load.Next(seed)
		if wantX, wantNext := nextByWhole(seed); x != wantX || next != wantNext {
			t.Fatalf("Next(%x): %x, %x, want %x, %x", seed, x, next, wantX, wantNext)
		}
	}
}

func TestRandom(t *testing.T) { // 28.1
	for _, x := range []struct {
		seed           uint64
		workers, steps int
	}{{0, 1, 0}, {0, 2, 1}, {5, 1, 10}, {5, 3, 100}, {math.MaxUint64, api.MaxWorkers, 1000}, {7, 63, 1000}, {9, 64, api.MaxSteps}} {
		got, why := load.Random(x.seed, x.workers, x.steps)
		var want []int
		for seed := x.seed; len(want) < x.steps; {
			var n uint64
			n, seed = load.Next(seed)
			want = append(want, int(n%uint64(x.workers)))
		}
		if !slices.Equal(got, want) || why != api.OK {
			t.Errorf("Random(%d, %d, %d): %d numbers, error %d", x.seed, x.workers, x.steps, len(got), why)
		}
	}
	for _, x := range [][2]int{{0, 1}, {-1, 1}, {math.MinInt, 0}, {api.MaxWorkers + 1, 1}, {math.MaxInt, 0}, {1, -1}, {1, math.MinInt}, {2, api.MaxSteps + 1}, {2, math.MaxInt}, {0, -1}} {
		if got, why := load.Random(1, x[0], x[1]); len(got) != 0 || why != api.ErrRange {
			t.Errorf("Random(1, %d, %d): %d numbers, error %d", x[0], x[1], len(got), why)
		}
	}
}

func TestCheck(t *testing.T) { // 28.1
	for _, kind := range []api.LoadKind{api.LoadShards, api.LoadTokens, api.LoadQuota, api.LoadSnap} {
		for _, workers := range []int{1, 2, api.MaxWorkers} {
			for _, each := range []int{0, 1, api.MaxEach} {
				for _, size := range []int{1, 2, api.MaxSize} {
					for _, seed := range []uint64{0, math.MaxUint64} {
						l := api.Load{Kind: kind, Seed: seed, Workers: workers, Each: each, Size: size}
						if why := load.Check(l); why != api.OK {
							t.Errorf("Check(%v): error %d", l, why)
						}
					}
				}
			}
		}
	}
}

func TestWrongLoads(t *testing.T) { // 28.1, 28.3, 28.4, 28.5
	long := make([]int, api.MaxSteps+1)
	for name, l := range wrongLoads() {
		if why := load.Check(l); why != api.ErrLoad {
			t.Errorf("%s: Check: error %d", name, why)
		}
		if got, why := load.Plan(l); len(got) != 0 || why != api.ErrLoad {
			t.Errorf("%s: Plan: %v, error %d", name, got, why)
		}
		for _, schedule := range [][]int{nil, {0, 1}, long} {
			if got, why := load.Drive(l, schedule); !isNone(got) || why != api.ErrLoad {
				t.Errorf("%s: Drive: %v, error %d", name, got, why)
			}
			if got, why := load.Finish(l, schedule); len(got) != 0 || why != api.ErrLoad {
				t.Errorf("%s: Finish: %v, error %d", name, got, why)
			}
			for _, goal := range []api.Goal{api.GoalNone, api.GoalFailed, api.GoalCount} {
				if got, why := load.Meets(l, schedule, goal); got || why != api.ErrLoad {
					t.Errorf("%s: Meets: %v, error %d", name, got, why)
				}
				if got, why := load.Shrink(l, schedule, goal); len(got) != 0 || why != api.ErrLoad {
					t.Errorf("%s: Shrink: %v, error %d", name, got, why)
				}
			}
		}
		if got, is, why := load.End(l); len(got) != 0 || is || why != api.ErrLoad {
			t.Errorf("%s: End: %v, %v, error %d", name, got, is, why)
		}
		if got, why := load.Free(l); got || why != api.ErrLoad {
			t.Errorf("%s: Free: %v, error %d", name, got, why)
		}
	}
}

func shard(kind api.ShardKind, worker int, by uint64) api.Todo {
	return api.Todo{Kind: api.LoadShards, Shard: api.ShardOp{Kind: kind, Worker: worker, By: by}}
}

func token(kind api.TokenKind, at, n int64) api.Todo {
	return api.Todo{Kind: api.LoadTokens, Token: api.TokenOp{Kind: kind, At: at, N: n}}
}

func quotum(kind api.QuotaKind, worker int) api.Todo {
	return api.Todo{Kind: api.LoadQuota, Quota: api.QuotaOp{Kind: kind, Worker: worker}}
}

func put(reg int, value uint32) api.Todo {
	return api.Todo{Kind: api.LoadSnap, Snap: api.SnapOp{Kind: api.SnapPut, Reg: reg, Value: value}}
}

var scan = api.Todo{Kind: api.LoadSnap, Snap: api.SnapOp{Kind: api.SnapScan, Tries: 3}}

// The first eight numbers of the seed 0, by hand:
//
//	number            modulo 4 5 3 2   d modulo 9 40 100
//	e220a8397b1dcdaf         3 0 1 1            3  5  85
//	6e789e6aa1b965f4         0 0 0 0            2 21   1
//	06c45d188009454f         3 4 1 1            3  5  25
//	f88bb8a8724c81ec         0 4 1 0            8 33  93
//	1b39896a51a8749b         3 2 1 1            5 12  32
//	53cb9f0c747ea2ea         2 0 0 0            3 26  26
//	2c829abe1f4532e1         1 3 2 1            8 18  98
//	c584133ac916ab3c         0 0 2 0            5 35  55
func TestPlanByHand(t *testing.T) { // 28.1
	for _, want := range [][]api.Todo{
		{
			shard(api.ShardRead, 0, 0), shard(api.ShardAdd, 0, 3), shard(api.ShardRead, 0, 0), shard(api.ShardAdd, 0, 9),
			shard(api.ShardRead, 1, 0), shard(api.ShardSum, 0, 0), shard(api.ShardAdd, 1, 9), shard(api.ShardAdd, 1, 6),
		}, {
			token(api.TokenPeek, 5, 0), token(api.TokenPeek, 21, 0), token(api.TokenTake, 5, 2), token(api.TokenTake, 33, 1),
			token(api.TokenTake, 12, 2), token(api.TokenPeek, 26, 0), token(api.TokenTake, 18, 2), token(api.TokenPeek, 35, 0),
		}, {
			quotum(api.QuotaBack, 0), quotum(api.QuotaBack, 0), quotum(api.QuotaTake, 0), quotum(api.QuotaTake, 0),
			quotum(api.QuotaTake, 1), quotum(api.QuotaBack, 1), quotum(api.QuotaTake, 1), quotum(api.QuotaBack, 1),
		}, {
			put(0, 85), scan, put(0, 25), put(0, 93),
			put(1, 32), scan, put(1, 98), put(1, 55),
		},
	} {
		plan := planned(t, api.Load{Kind: want[0].Kind, Workers: 2, Each: 4, Size: 3})
		if !slices.Equal(plan[0], want[:4]) || !slices.Equal(plan[1], want[4:]) {
			t.Errorf("%v, want %v", plan, want)
		}
	}
}

// todoOf is an operation of a worker, of a number.
func todoOf(kind api.LoadKind, worker int, x uint64) api.Todo {
	d := x / 256
	switch kind {
	case api.LoadShards:
		return [4]api.Todo{shard(api.ShardAdd, worker, 1+d%9), shard(api.ShardAdd, worker, 1+d%9), shard(api.ShardSum, 0, 0), shard(api.ShardRead, worker, 0)}[x%4]
	case api.LoadTokens:
		if x%5 > 0 {
			return token(api.TokenTake, int64(d%40), 1+int64(x%2))
		}
		return token(api.TokenPeek, int64(d%40), 0)
	case api.LoadQuota:
		take := quotum(api.QuotaTake, worker)
		return [5]api.Todo{quotum(api.QuotaBack, worker), quotum(api.QuotaLeft, 0), take, take, take}[x%5]
	}
	if x%3 > 0 {
		return put(worker, uint32(d%100))
	}
	return scan
}

func TestPlanOfAnyLoad(t *testing.T) { // 28.1
	r := rand.New(rand.NewSource(2))
	for i := range 400 {
		l := api.Load{Kind: api.LoadKind(1 + i%4), Seed: r.Uint64(), Workers: 1 + r.Intn(api.MaxWorkers), Each: r.Intn(api.MaxEach + 1), Size: 1 + r.Intn(api.MaxSize)}
		if i < 8 {
			l.Workers, l.Each, l.Size = api.MaxWorkers, api.MaxEach, api.MaxSize
		}
		seed := l.Seed
		for worker, list := range planned(t, l) {
			if len(list) != l.Each {
				t.Fatalf("%v: worker %d has %d operations", l, worker, len(list))
			}
			for _, todo := range list {
				var x uint64
				x, seed = load.Next(seed)
				if want := todoOf(l.Kind, worker, x); todo != want {
					t.Fatalf("%v: worker %d: %v, want %v", l, worker, todo, want)
				}
			}
		}
	}
}

func TestPlanIsNewMemory(t *testing.T) { // 28.6
	l := api.Load{Kind: api.LoadQuota, Seed: 3, Workers: 5, Each: 7, Size: 2}
	want := planned(t, l)
	plan := planned(t, l)
	for i := range plan {
		spoil(plan[i], put(77, 77))
		if i+1 < len(plan) && !slices.Equal(plan[i+1], want[i+1]) {
			t.Fatal("two workers' lists share memory")
		}
	}
	spoil(plan, nil)
	for i, list := range planned(t, l) {
		if !slices.Equal(list, want[i]) {
			t.Fatal("what is handed out is kept")
		}
	}
}
