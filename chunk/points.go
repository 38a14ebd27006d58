package chunk

import (
	"math"
	"math/bits"

	"abacus/api"
	"abacus/gauges"
)

// ahead is what a point is told by: what stands ahead of it.
type ahead struct {
	at    int64  // of the last point
	step  uint64 // its moment less that of the one ahead of it
	value uint64 // the bits of its value
	frame frame
}

// nothing stands ahead of the first point.
func nothing() ahead {
	return ahead{frame: frame{upper: 64}} // within which no bits lie, as none have so many noughts above them
}

// write writes the point with a number behind those ahead of it.
func (a *ahead) write(w *writer, number int, p api.Dot) {
	step, value := uint64(p.At)-uint64(a.at), gauges.Bits(p.V)
	switch number {
	case 0:
		w.varint(folded(p.At))
		w.put(value, 64)
	case 1:
		w.varint(step)
		a.writeValue(w, value)
	default:
		writeTurn(w, int64(step-a.step))
		a.writeValue(w, value)
	}
	a.at, a.step, a.value = p.At, step, value
}

// read reads the point with a number behind those ahead of it.
func (a *ahead) read(r *reader, number int) api.Dot {
	switch number {
	case 0:
		a.step = uint64(unfolded(r.varint()))
		a.value = r.take(64)
	case 1:
		a.step = r.varint()
		a.readValue(r)
	default:
		a.step += uint64(readTurn(r))
		a.readValue(r)
	}
	a.at += int64(a.step)
	return api.Dot{At: a.at, V: math.Float64frombits(a.value)}
}

// folded is a number without a sign: the lowest bit tells it, so that what is near 0 stays low.
func folded(x int64) uint64 {
	if x < 0 {
		return ^(uint64(x) << 1)
	}
	return uint64(x) << 1
}

func unfolded(x uint64) int64 {
	if x&1 == 1 {
		return ^int64(x >> 1)
	}
	return int64(x >> 1)
}

// size is a way of writing by how much one step differs from the one ahead: from the least to the most, in so many bits.
type size struct {
	bits        int
	least, most int64
}

// A number of a size stands behind as many ones as sizes stand ahead of it here, and, if it isn't the last one, a nought.
var sizes = [...]size{
	{0, 0, 0},
	{14, 1 - 1<<13, 1 << 13},
	{17, 1 - 1<<16, 1 << 16},
	{20, 1 - 1<<19, 1 << 19},
	{64, math.MinInt64, math.MaxInt64},
}

// writeTurn writes by how much a step differs from the one ahead.
func writeTurn(w *writer, turn int64) {
	for i, x := range sizes {
		if turn >= x.least && turn <= x.most {
			if i < len(sizes)-1 {
				w.put(0, 1)
			}
			w.put(uint64(turn), x.bits)
			return
		}
		w.put(1, 1)
	}
}

func readTurn(r *reader) int64 {
	i := 0
	for i < len(sizes)-1 && r.take(1) == 1 {
		i++
	}
	x := sizes[i]
	turn := r.take(x.bits)
	if turn > uint64(x.most) {
		turn -= 1 << x.bits // it is below 0; of 64 bits this is nothing, and they are so already
	}
	return int64(turn)
}

// frame is where the bits of a difference of values lie: so many noughts stand above them, so many below.
type frame struct{ upper, lower int }

// mostUpper is how many noughts above may be told: in five bits.
const mostUpper = 31

func frameOf(x uint64) frame {
	return frame{min(bits.LeadingZeros64(x), mostUpper), bits.TrailingZeros64(x)}
}

// within tells whether what lies in f lies in another frame, too.
func (f frame) within(o frame) bool {
	return f.upper >= o.upper && f.lower >= o.lower
}

// width is how many bits lie in the frame.
func (f frame) width() int {
	return 64 - f.upper - f.lower
}

// writeValue writes a value's bits as what they differ in from those ahead.
func (a *ahead) writeValue(w *writer, value uint64) {
	x := value ^ a.value
	if x == 0 {
		w.put(0, 1)
		return
	}
	w.put(1, 1)
	if own := frameOf(x); own.within(a.frame) {
		w.put(0, 1)
	} else {
		a.frame = own
		w.put(1, 1)
		w.put(uint64(own.upper), 5)
		w.put(uint64(own.width()), 6) // of 64 this is 0
	}
	w.put(x>>a.frame.lower, a.frame.width())
}

func (a *ahead) readValue(r *reader) {
	if r.take(1) == 0 {
		return
	}
	if r.take(1) == 1 {
		a.readFrame(r)
	}
	a.value ^= r.take(a.frame.width()) << a.frame.lower
}

func (a *ahead) readFrame(r *reader) {
	upper, width := int(r.take(5)), int(r.take(6))
	if width == 0 {
		width = 64
	}
	if upper+width > 64 {
		r.over = true
		return
	}
	a.frame = frame{upper: upper, lower: 64 - upper - width}
}
