package cells

// forest has trees of words, all of one depth having their words as leaves; it keeps each pair of branches once. So two trees of one depth have the same words just if they have the same number, and a tree that parts from another by one word costs one pair a level, however many words there are.
//
// A tree of depth 0 is a word, and its number is that word; a tree above it is the number of a pair of trees that are one level less deep.
type forest struct {
	pairs  [][2]uint64
	number map[[2]uint64]uint64
}

func newForest() forest {
	return forest{number: map[[2]uint64]uint64{}}
}

func (f *forest) join(pair [2]uint64) uint64 {
	n, ok := f.number[pair]
	if !ok {
		n = uint64(len(f.pairs))
		f.number[pair] = n
		f.pairs = append(f.pairs, pair)
	}
	return n
}

// plant is the tree of these words, with noughts behind them.
func (f *forest) plant(words []uint64, depth int) uint64 {
	if depth == 0 {
		if len(words) == 0 {
			return 0
		}
		return words[0]
	}
	half := min(1<<(depth-1), len(words))
	return f.join([2]uint64{f.plant(words[:half], depth-1), f.plant(words[half:], depth-1)})
}

// leaf is the word i of a tree.
func (f *forest) leaf(tree uint64, depth, i int) uint64 {
	for depth > 0 {
		depth--
		tree = f.pairs[tree][i>>depth&1]
	}
	return tree
}

// graft is a tree whose word i is another one.
func (f *forest) graft(tree uint64, depth, i int, word uint64) uint64 {
	if depth == 0 {
		return word
	}
	pair := f.pairs[tree]
	side := i >> (depth - 1) & 1
	pair[side] = f.graft(pair[side], depth-1, i, word)
	return f.join(pair)
}

// words fills a list with the first words of a tree.
func (f *forest) words(tree uint64, depth int, list []uint64) {
	if len(list) == 0 {
		return
	}
	if depth == 0 {
		list[0] = tree
		return
	}
	half := min(1<<(depth-1), len(list))
	f.words(f.pairs[tree][0], depth-1, list[:half])
	f.words(f.pairs[tree][1], depth-1, list[half:])
}
