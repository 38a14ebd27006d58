package exact

import (
	"abacus/api"
	"abacus/lists"
)

// Free is the exact sum of lists, a goroutine a list, as a text.
func Free(l [][]float64) (string, api.Errno) {
	if lists.TooMany(l) {
		return "", api.ErrMany
	}
	var answers []chan *Sum
	for _, list := range l {
		answer := make(chan *Sum)
		answers = append(answers, answer)
		go func() {
			defer close(answer)
			answer <- of(list)
		}()
	}
	all := New()
	for _, answer := range answers {
		for s := range answer { // till it is closed: nothing is done by its goroutine then
			all.Merge(s)
		}
	}
	return all.Text(), api.OK
}

// of is the sum of a list.
func of(list []float64) *Sum {
	s := New()
	for _, x := range list {
		s.Add(x)
	}
	return s
}
