package delta

import (
	"slices"
	"strings"

	"abacus/api"
)

// Sender makes pushes of counts.
type Sender struct {
	source  string
	number  uint64      // of the last push
	last    []api.Count // those that were sent last
	waiting []api.Push  // by their numbers
}

// NewSender has a source's name, and sent nothing.
func NewSender(source string) (*Sender, api.Errno) {
	if !isKey(source) {
		return nil, api.ErrPush
	}
	return &Sender{source: strings.Clone(source)}, api.OK
}

// Send makes a push of what came of the counts since the last one; it waits till it is acked.
func (s *Sender) Send(now []api.Count) (api.Push, api.Errno) {
	if s == nil {
		return api.Push{}, api.ErrNil
	}
	changes, why := Diff(s.last, now)
	switch {
	case why != api.OK:
		return api.Push{}, why
	case len(s.waiting) == api.MaxWaiting:
		return api.Push{}, api.ErrMany
	}
	s.number++
	s.last = copiedCounts(now)
	p := api.Push{Source: s.source, Number: s.number, Changes: changes}
	s.waiting = append(s.waiting, p)
	return copiedPush(p), api.OK
}

// Acked drops the pushes up to a number.
func (s *Sender) Acked(number uint64) api.Errno {
	switch {
	case s == nil:
		return api.ErrNil
	case number > s.number:
		return api.ErrRange
	}
	s.waiting = slices.DeleteFunc(s.waiting, func(p api.Push) bool { return p.Number <= number })
	return api.OK
}

// Waiting are the pushes that were not acked.
func (s *Sender) Waiting() []api.Push {
	if s == nil {
		return nil
	}
	var l []api.Push
	for _, p := range s.waiting {
		l = append(l, copiedPush(p))
	}
	return l
}

// copiedPush is a push of new memory.
func copiedPush(p api.Push) api.Push {
	c := api.Push{Source: strings.Clone(p.Source), Number: p.Number}
	for _, change := range p.Changes {
		c.Changes = append(c.Changes, copied(change))
	}
	return c
}

// copiedCounts are counts of new memory.
func copiedCounts(l []api.Count) []api.Count {
	var counts []api.Count
	for _, c := range l {
		counts = append(counts, api.Count{Key: strings.Clone(c.Key), N: c.N})
	}
	return counts
}
