package load

import "abacus/api"

// Next is the next number of a seed, and the seed behind it.
func Next(seed uint64) (uint64, uint64) {
	seed += 0x9e3779b97f4a7c15
	z := seed
	z = (z ^ z>>30) * 0xbf58476d1ce4e5b9
	z = (z ^ z>>27) * 0x94d049bb133111eb
	return z ^ z>>31, seed
}

// Random is a schedule of so many numbers, each a worker's.
func Random(seed uint64, workers, steps int) ([]int, api.Errno) {
	if workers < 1 || workers > api.MaxWorkers || steps < 0 || steps > api.MaxSteps {
		return nil, api.ErrRange
	}
	l := make([]int, steps)
	for i := range l {
		var x uint64
		x, seed = Next(seed)
		l[i] = int(x % uint64(workers))
	}
	return l, api.OK
}
