package statsd

import (
	"cmp"
	"slices"
	"strings"

	"abacus/api"
	"abacus/labels"
)

// RightStats tells whether stats may be.
func RightStats(l []api.Stat) bool {
	for i, s := range l {
		if !isRightStat(s) || i > 0 && byKey(l[i-1], s) >= 0 {
			return false
		}
	}
	return true
}

// byKey compares the keys of two stats.
func byKey(a, b api.Stat) int {
	return cmp.Or(cmp.Compare(a.Kind, b.Kind), cmp.Compare(a.Name, b.Name), labels.Compare(a.Labels, b.Labels))
}

// isRightStat tells whether a stat may be by itself.
func isRightStat(s api.Stat) bool {
	if !isKind(s.Kind) || !isName(s.Name) || !isTagged(s.Labels) {
		return false
	}
	if s.Kind != api.PointCount && s.Count < 1 || s.Kind != api.PointGauge && s.Last != 0 {
		return false
	}
	if s.Sum != 0 && s.Kind != api.PointCount && !isTimed(s.Kind) {
		return false
	}
	return hasRightEnds(s) && hasRightTexts(s)
}

// hasRightEnds tells whether the least and the greatest number of a stat may be.
func hasRightEnds(s api.Stat) bool {
	if isTimed(s.Kind) {
		return 0 <= s.Least && s.Least <= s.Greatest && s.Greatest < api.MaxAmount
	}
	return s.Least == 0 && s.Greatest == 0
}

// hasRightTexts tells whether the members of a stat may be.
func hasRightTexts(s api.Stat) bool {
	for i, text := range s.Texts {
		if !isText(text) || i > 0 && s.Texts[i-1] >= text {
			return false
		}
	}
	return (len(s.Texts) > 0) == (s.Kind == api.PointSet)
}

// Fold is what stats come to with further points.
func Fold(l []api.Stat, p []api.Point) ([]api.Stat, api.Errno) {
	if !RightStats(l) {
		return nil, api.ErrStat
	}
	for _, x := range p {
		if !Right(x) {
			return nil, api.ErrPoint
		}
	}
	b := newBook()
	for _, s := range l {
		b.join(s)
	}
	for _, x := range p {
		b.take(x)
	}
	return b.sorted(), api.OK
}

// Merge is what two lists of stats come to, the second one behind the first.
func Merge(a, b []api.Stat) ([]api.Stat, api.Errno) {
	if !RightStats(a) || !RightStats(b) {
		return nil, api.ErrStat
	}
	both := newBook()
	for _, s := range a {
		both.join(s)
	}
	for _, s := range b {
		both.join(s)
	}
	return both.sorted(), api.OK
}

// key is by what stats are told apart: in the text the labels stand behind the name, in which no { may be.
type key struct {
	kind api.PointKind
	text string
}

// book has stats by their keys. Texts come to them in any order, also twice.
type book struct {
	stats map[key]*api.Stat
}

func newBook() *book {
	return &book{stats: map[key]*api.Stat{}}
}

// stat is the one with a key, and whether it is new.
func (b *book) stat(kind api.PointKind, name string, set []api.Label) (*api.Stat, bool) {
	text, _ := labels.Print(set)
	k := key{kind: kind, text: name + text}
	s, is := b.stats[k]
	if !is {
		own, _, _ := labels.Make(set)
		s = &api.Stat{Kind: kind, Name: strings.Clone(name), Labels: own}
		b.stats[k] = s
	}
	return s, !is
}

// take has a point come to its stat.
func (b *book) take(p api.Point) {
	s, isNew := b.stat(p.Kind, p.Name, p.Labels)
	s.Count += p.Weight
	switch {
	case p.Kind == api.PointGauge && p.Rel:
		s.Last += p.Value
	case p.Kind == api.PointGauge:
		s.Last = p.Value
	case p.Kind == api.PointSet:
		s.Texts = append(s.Texts, p.Text)
	default:
		s.Sum += p.Value * p.Weight
	}
	if isTimed(p.Kind) {
		widen(s, isNew, p.Value, p.Value)
	}
}

// join has a stat come to the one with its key.
func (b *book) join(t api.Stat) {
	s, isNew := b.stat(t.Kind, t.Name, t.Labels)
	s.Count += t.Count
	s.Sum += t.Sum
	s.Last = t.Last
	s.Texts = append(s.Texts, t.Texts...)
	widen(s, isNew, t.Least, t.Greatest)
}

// widen has a stat reach from a least to a greatest number, too.
func widen(s *api.Stat, isNew bool, least, greatest int64) {
	if isNew {
		s.Least, s.Greatest = least, greatest
	}
	s.Least = min(s.Least, least)
	s.Greatest = max(s.Greatest, greatest)
}

// sorted are the stats by rising keys, each text once.
func (b *book) sorted() []api.Stat {
	var l []api.Stat
	for _, s := range b.stats {
		s.Texts = inOrder(s.Texts)
		l = append(l, *s)
	}
	slices.SortFunc(l, byKey)
	return l
}

// inOrder are texts by their bytes, each once, of new memory.
func inOrder(l []string) []string {
	slices.Sort(l)
	var texts []string
	for _, t := range slices.Compact(l) {
		texts = append(texts, strings.Clone(t))
	}
	return texts
}
