package tokens_test

import (
	"math"
	"math/rand"
	"sync"
	"testing"

	"abacus/api"
	"abacus/tokens"
)

func made(t *testing.T, every, burst int64) *tokens.Bucket {
	t.Helper()
	b, why := tokens.New(every, burst)
	if b == nil || why != api.OK {
		t.Fatalf("New(%d, %d): error %d", every, burst, why)
	}
	return b
}

var given = api.Took{Ok: true}

func wait(d int64) api.Took {
	return api.Took{Wait: d}
}

// takes holds a Take, and the word behind it, against what is wanted.
func takes(t *testing.T, b *tokens.Bucket, at, n int64, want api.Took, word uint64) {
	t.Helper()
	if got, why := b.Take(at, n); got != want || why != api.OK || b.Word() != word {
		t.Errorf("Take(%d, %d): %v, error %d, word %d, want %v, word %d", at, n, got, why, b.Word(), want, word)
	}
}

func peeks(t *testing.T, b *tokens.Bucket, at, want int64) {
	t.Helper()
	word := b.Word()
	if got, why := b.Peek(at); got != want || why != api.OK || b.Word() != word {
		t.Errorf("Peek(%d): %d, error %d, word %d, want %d, word %d", at, got, why, b.Word(), want, word)
	}
}

// sizes are numbers that a bucket's may not be, and that they may be.
func sizes(most int64) (bad, good []int64) {
	return []int64{0, -1, math.MinInt64, most + 1, math.MaxInt64}, []int64{1, 2, most - 1, most}
}

func TestNew(t *testing.T) { // 6.1
	badEvery, goodEvery := sizes(api.MaxEvery)
	badBurst, goodBurst := sizes(api.MaxBurst)
	for _, every := range goodEvery {
		for _, burst := range goodBurst {
			b := made(t, every, burst)
			if b.Word() != 0 {
				t.Errorf("New(%d, %d) has the word %d", every, burst, b.Word())
			}
			peeks(t, b, 0, burst)
			peeks(t, b, api.MaxAt, burst)
		}
	}
	refused := func(every, burst int64) {
		if b, why := tokens.New(every, burst); b != nil || why != api.ErrRange {
			t.Errorf("New(%d, %d): error %d", every, burst, why)
		}
	}
	for _, every := range badEvery {
		refused(every, 1)
		refused(every, 0)
	}
	for _, burst := range badBurst {
		refused(1, burst)
	}
}

func TestExamples(t *testing.T) { // examples 1 and 3
	b := made(t, 10, 3)
	takes(t, b, 0, 1, given, 10)
	takes(t, b, 0, 2, given, 30)
	takes(t, b, 0, 1, wait(10), 30)
	peeks(t, b, 0, 0)
	peeks(t, b, 15, 1)
	takes(t, b, 10, 1, given, 40)
	takes(t, b, 1000, 3, given, 1030)
	takes(t, b, 0, 4, wait(-1), 1030)
	if got, why := b.Take(-1, 1); got != (api.Took{}) || why != api.ErrRange || b.Word() != 1030 {
		t.Error("Take(-1, 1):", got, why, b.Word())
	}
	if got, why := tokens.Most(10, 3, 0, 25); got != 5 || why != api.OK {
		t.Error("Most:", got, why)
	}
	if got, why := tokens.Free(10, 3, 4, 2, 7); got != 3 || why != api.OK {
		t.Error("Free:", got, why)
	}
}

func TestTakeAndPeekRefuse(t *testing.T) { // 6.2
	b := made(t, 10, 3)
	takes(t, b, 5, 2, given, 25)
	for _, x := range []struct{ at, n int64 }{
		{-1, 1}, {math.MinInt64, 1}, {api.MaxAt + 1, 1}, {math.MaxInt64, 1},
		{0, 0}, {0, -1}, {0, math.MinInt64}, {0, api.MaxBurst + 1}, {0, math.MaxInt64}, {-1, 0},
	} {
		if got, why := b.Take(x.at, x.n); got != (api.Took{}) || why != api.ErrRange {
			t.Errorf("Take(%d, %d): %v, error %d", x.at, x.n, got, why)
		}
	}
	for _, at := range []int64{-1, math.MinInt64, api.MaxAt + 1, math.MaxInt64} {
		if got, why := b.Peek(at); got != 0 || why != api.ErrRange {
			t.Errorf("Peek(%d): %d, error %d", at, got, why)
		}
	}
	if b.Word() != 25 {
		t.Error("a refused call changes the word:", b.Word())
	}
}

func TestTake(t *testing.T) { // 6.2, and the words
	b := made(t, 10, 3)
	takes(t, b, 100, 3, given, 130) // what is not taken up to a moment does not come to more than the burst
	takes(t, b, 100, 1, wait(10), 130)
	takes(t, b, 100, 3, wait(30), 130)
	takes(t, b, 109, 1, wait(1), 130)
	takes(t, b, 110, 1, given, 140)
	takes(t, b, 119, 1, wait(1), 140)
	takes(t, b, 125, 2, wait(5), 140)
	takes(t, b, 125, 1, given, 150)
	takes(t, b, 120, 1, wait(10), 150) // moments go back
	takes(t, b, 0, 1, wait(130), 150)
	takes(t, b, 0, 3, wait(150), 150)
	takes(t, b, 0, 4, wait(-1), 150) // so many never, whenever
	takes(t, b, 1000, 4, wait(-1), 150)
	takes(t, b, 150, api.MaxBurst, wait(-1), 150)
	takes(t, b, 149, 3, wait(1), 150)
	takes(t, b, 150, 3, given, 180)
	takes(t, b, 200, 2, given, 220)
	takes(t, b, 195, 1, wait(5), 220)
	takes(t, b, 215, 1, given, 230) // sooner than the one ahead of it had gone up to, and yet given
	takes(t, b, 205, 1, wait(5), 230)
}

func TestPeek(t *testing.T) { // 6.2, and the words
	b := made(t, 10, 3)
	takes(t, b, 100, 3, given, 130)
	for _, x := range [][2]int64{
		{0, 0}, {99, 0}, {100, 0}, {109, 0}, {110, 1}, {119, 1}, {120, 2}, {129, 2}, {130, 3}, {131, 3}, {139, 3}, {1000, 3}, {api.MaxAt, 3},
	} {
		peeks(t, b, x[0], x[1])
	}
}

func TestGreatNumbers(t *testing.T) { // 6.2: no sum goes round
	const depth = api.MaxEvery * api.MaxBurst
	b := made(t, api.MaxEvery, api.MaxBurst)
	takes(t, b, api.MaxAt, api.MaxBurst, given, api.MaxAt+depth)
	peeks(t, b, api.MaxAt, 0)
	peeks(t, b, 0, 0)
	takes(t, b, api.MaxAt, 1, wait(api.MaxEvery), api.MaxAt+depth)
	takes(t, b, api.MaxAt, api.MaxBurst, wait(depth), api.MaxAt+depth)
	takes(t, b, 0, api.MaxBurst, wait(api.MaxAt+depth), api.MaxAt+depth)
	takes(t, b, 0, 1, wait(api.MaxAt+api.MaxEvery), api.MaxAt+depth)

	b = made(t, api.MaxEvery, 1)
	takes(t, b, api.MaxAt, api.MaxBurst, wait(-1), 0)
	takes(t, b, api.MaxAt, 1, given, api.MaxAt+api.MaxEvery)
	takes(t, b, 0, api.MaxBurst, wait(-1), api.MaxAt+api.MaxEvery)

	b = made(t, 1, 1)
	takes(t, b, api.MaxAt, 1, given, api.MaxAt+1)
	takes(t, b, api.MaxAt, 1, wait(1), api.MaxAt+1)
	takes(t, b, 0, 1, wait(api.MaxAt+1), api.MaxAt+1)
}

// there is the number of tokens that there are, looked for one by one as the document has it.
func there(word uint64, every, burst, at int64) int64 {
	for k := burst; k > 0; k-- {
		if max(int64(word), at)+k*every <= at+burst*every {
			return k
		}
	}
	return 0
}

func TestPlainCallsAgainstTheWords(t *testing.T) { // 6.2, 6.9
	r := rand.New(rand.NewSource(1))
	refused, back := 0, 0
	for range 500 {
		every, burst := 1+r.Int63n(20), 1+r.Int63n(6)
		b := made(t, every, burst)
		var now int64
		for range 60 {
			was := now
			now = max(0, now+r.Int63n(4*every)-3*every/2)
			n, word := 1+r.Int63n(burst+1), b.Word()
			peeks(t, b, now, there(word, every, burst, now))
			next := max(int64(word), now) + n*every
			switch over := next - now - burst*every; {
			case n > burst:
				takes(t, b, now, n, wait(-1), word)
			case over > 0:
				refused++
				takes(t, b, now, n, wait(over), word)
				if r.Intn(2) == 0 { // who waits is given them, and a nanosecond sooner not
					takes(t, b, now+over-1, n, wait(1), word)
					takes(t, b, now+over, n, given, uint64(max(int64(word), now+over)+n*every))
				}
			default:
				takes(t, b, now, n, given, uint64(next))
				if now < was {
					back++
				}
			}
			if t.Failed() {
				t.Fatalf("every %d, burst %d", every, burst)
			}
		}
	}
	if refused == 0 || back == 0 {
		t.Error("something never came:", refused, back)
	}
}

func TestMost(t *testing.T) { // 6.4
	for _, x := range []struct{ every, burst, from, to, want int64 }{
		{10, 3, 0, 0, 3}, {10, 3, 0, 9, 3}, {10, 3, 0, 10, 4}, {10, 3, 5, 14, 3}, {10, 3, 5, 15, 4}, {10, 3, 1000, 1025, 5},
		{1, 1, 0, api.MaxAt, api.MaxAt + 1}, {1, api.MaxBurst, 0, api.MaxAt, api.MaxAt + api.MaxBurst},
		{api.MaxEvery, api.MaxBurst, 0, api.MaxAt, api.MaxBurst + 1<<21}, {api.MaxEvery, 1, 1, api.MaxAt, 1 + 1<<21 - 1},
		{1, 1, api.MaxAt, api.MaxAt, 1}, {7, 2, api.MaxAt - 7, api.MaxAt, 3},
	} {
		if got, why := tokens.Most(x.every, x.burst, x.from, x.to); got != x.want || why != api.OK {
			t.Errorf("Most(%d, %d, %d, %d): %d, error %d, want %d", x.every, x.burst, x.from, x.to, got, why, x.want)
		}
	}
	for _, x := range [][4]int64{
		{0, 1, 0, 1}, {-1, 1, 0, 1}, {api.MaxEvery + 1, 1, 0, 1}, {math.MinInt64, 1, 0, 1},
		{1, 0, 0, 1}, {1, -1, 0, 1}, {1, api.MaxBurst + 1, 0, 1}, {1, math.MaxInt64, 0, 1},
		{1, 1, -1, 1}, {1, 1, math.MinInt64, math.MaxInt64}, {1, 1, api.MaxAt + 1, api.MaxAt + 1}, {1, 1, 0, api.MaxAt + 1}, {1, 1, 0, math.MaxInt64},
		{1, 1, 0, -1}, {1, 1, 6, 5}, {1, 1, api.MaxAt, 0},
	} {
		if got, why := tokens.Most(x[0], x[1], x[2], x[3]); got != 0 || why != api.ErrRange {
			t.Errorf("Most of %v: %d, error %d", x, got, why)
		}
	}
}

func TestNil(t *testing.T) { // 6.6
	var b *tokens.Bucket
	if b.Word() != 0 {
		t.Error("Word of a nil bucket:", b.Word())
	}
	for _, x := range [][2]int64{{0, 1}, {-1, 0}, {api.MaxAt + 1, 5}} {
		if got, why := b.Take(x[0], x[1]); got != (api.Took{}) || why != api.ErrNil {
			t.Errorf("Take of a nil bucket at %v: %v, error %d", x, got, why)
		}
		if got, why := b.Peek(x[0]); got != 0 || why != api.ErrNil {
			t.Errorf("Peek(%d) of a nil bucket: %d, error %d", x[0], got, why)
		}
	}
	for _, op := range []api.TokenOp{{Kind: api.TokenPeek}, {}, {Kind: api.TokenTake, At: -1}} {
		if p, why := b.Start(op); p != nil || why != api.ErrNil {
			t.Errorf("Start(%v) of a nil bucket: error %d", op, why)
		}
	}
	var p *tokens.Pending
	for range 2 {
		if did, ended := p.Step(); did != (api.Did{}) || !ended || !p.Done() || p.Answer() != (api.Took{}) {
			t.Error("a nil operation:", did, ended, p.Done(), p.Answer())
		}
	}
}

func TestTwoBucketsAreApart(t *testing.T) { // P4
	a, b := made(t, 10, 3), made(t, 10, 3)
	takes(t, b, 0, 1, given, 10)
	takes(t, a, 0, 3, given, 30)
	peeks(t, b, 0, 2)
}

func TestPlainCallsByMany(t *testing.T) { // 6.2, 6.7
	const workers, each = 8, 3000
	b := made(t, 10, 50)
	taken := make([]int64, workers)
	var all sync.WaitGroup
	for worker := range workers {
		all.Go(func() {
			for i := range each {
				at, n := int64(i), int64(1+i%3)
				got, why := b.Take(at, n)
				if got.Ok {
					taken[worker] += n
				}
				if why != api.OK || got.Ok == (got.Wait != 0) || got.Wait < 0 || got.Left != 0 {
					t.Errorf("Take(%d, %d): %v, error %d", at, n, got, why)
				}
				if left, why := b.Peek(at); left < 0 || left > 50 || why != api.OK {
					t.Errorf("Peek(%d): %d, error %d", at, left, why)
				}
			}
		})
	}
	all.Wait()
	var sum int64
	for _, n := range taken {
		sum += n
	}
	if most, _ := tokens.Most(10, 50, 0, each-1); sum > most || sum < 50 {
		t.Errorf("%d were given, of %d at most", sum, most)
	}
	if int64(b.Word()) < sum*10 {
		t.Errorf("%d were given, but the word is %d", sum, b.Word())
	}
}
