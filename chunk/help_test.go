package chunk_test

import (
	"bytes"
	"math"
	"math/bits"
	"math/rand"
	"slices"
	"strings"
	"testing"

	"abacus/api"
	"abacus/chunk"
)

const noNumber = 0x7ff8000000000001

var (
	inf   = math.Inf(1)
	minus = math.Copysign(0, -1)
	nan   = math.NaN()
)

func float(word uint64) float64 {
	return math.Float64frombits(word)
}

// dots are points, of moments and values by turns.
func dots(l ...float64) []api.Dot {
	var all []api.Dot
	for i := 0; i < len(l); i += 2 {
		all = append(all, api.Dot{At: int64(l[i]), V: l[i+1]})
	}
	return all
}

// at are points at these moments, all of the value 0.
func at(l ...int64) []api.Dot {
	var all []api.Dot
	for _, x := range l {
		all = append(all, api.Dot{At: x})
	}
	return all
}

// of are points at 1, 2, 3 .., of values with these bits.
func of(words ...uint64) []api.Dot {
	var all []api.Dot
	for i, x := range words {
		all = append(all, api.Dot{At: int64(i) + 1, V: float(x)})
	}
	return all
}

// steady are so many points, one a second, of one value.
func steady(n int) []api.Dot {
	var all []api.Dot
	for i := range n {
		all = append(all, api.Dot{At: int64(i) * 1000000000, V: 0.1})
	}
	return all
}

// plain are points of which those that are no number have the bits that are told of these.
func plain(l []api.Dot) []api.Dot {
	all := slices.Clone(l)
	for i, p := range all {
		if p.V != p.V {
			all[i].V = float(noNumber)
		}
	}
	return all
}

// same holds points against each other bit by bit.
func same(a, b []api.Dot) bool {
	return slices.EqualFunc(a, b, func(x, y api.Dot) bool {
		return x.At == y.At && math.Float64bits(x.V) == math.Float64bits(y.V)
	})
}

// What follows tells chunks a second time, as texts of noughts and ones, word by word as the document has them.

// number are the n lowest bits of x.
func number(x uint64, n int) string {
	var s strings.Builder
	for i := n - 1; i >= 0; i-- {
		s.WriteByte('0' + byte(x>>i&1))
	}
	return s.String()
}

func unsigned(x uint64) string {
	s := ""
	for x > 127 {
		s += number(x%128+128, 8)
		x /= 128
	}
	return s + number(x, 8)
}

func signed(x int64) string {
	if x < 0 {
		return unsigned(^(2 * uint64(x)))
	}
	return unsigned(2 * uint64(x))
}

func turn(d int64) string {
	switch {
	case d == 0:
		return "0"
	case -8191 <= d && d <= 8192:
		return "10" + number(uint64(d), 14)
	case -65535 <= d && d <= 65536:
		return "110" + number(uint64(d), 17)
	case -524287 <= d && d <= 524288:
		return "1110" + number(uint64(d), 20)
	}
	return "1111" + number(uint64(d), 64)
}

// window is a frame, as far as there is one.
type window struct {
	is   bool
	l, t int
}

func noughts(x uint64) (int, int) {
	return min(31, bits.LeadingZeros64(x)), bits.TrailingZeros64(x)
}

func value(x uint64, w *window) string {
	if x == 0 {
		return "0"
	}
	l, t := noughts(x)
	if w.is && l >= w.l && t >= w.t {
		return "10" + number(x>>w.t, 64-w.l-w.t)
	}
	*w = window{true, l, t}
	return "11" + number(uint64(l), 5) + number(uint64(64-l-t), 6) + number(x>>t, 64-l-t)
}

func word(x float64) uint64 {
	if x != x {
		return noNumber
	}
	return math.Float64bits(x)
}

// told are the bits of points behind their count.
func told(l []api.Dot) string {
	var s strings.Builder
	var w window
	for i, p := range l {
		switch i {
		case 0:
			s.WriteString(signed(p.At) + number(word(p.V), 64))
			continue
		case 1:
			s.WriteString(unsigned(uint64(p.At) - uint64(l[0].At)))
		default:
			s.WriteString(turn(int64(uint64(p.At) - 2*uint64(l[i-1].At) + uint64(l[i-2].At))))
		}
		s.WriteString(value(word(p.V)^word(l[i-1].V), &w))
	}
	return s.String()
}

// bytesOf are bytes: a count, and bits that are filled up.
func bytesOf(count int, bits string) []byte {
	b := []byte{byte(count >> 8), byte(count)}
	for i, c := range bits {
		if i%8 == 0 {
			b = append(b, 0)
		}
		b[len(b)-1] |= byte(c-'0') << (7 - i%8)
	}
	return b
}

// loose goes through bits; wrong: they are not those of a chunk.
type loose struct {
	bits  string
	wrong bool
}

func (s *loose) take(n int) uint64 {
	if n > len(s.bits) {
		s.wrong = true
		return 0
	}
	var x uint64
	for _, c := range s.bits[:n] {
		x = 2*x + uint64(c-'0')
	}
	s.bits = s.bits[n:]
	return x
}

func (s *loose) asks(is bool) {
	s.wrong = s.wrong || !is
}

func (s *loose) unsigned() uint64 {
	var x uint64
	for i := range 10 {
		b := s.take(8)
		s.asks(i < 9 || b < 2) // there are 64 bits
		x += b % 128 << (7 * i)
		if b < 128 {
			s.asks(b > 0 || i == 0)
			return x
		}
	}
	return x
}

func (s *loose) turn() int64 {
	for _, n := range []int{0, 14, 17, 20} {
		if n > 0 && s.take(1) == 1 {
			continue
		}
		if n == 0 {
			if s.take(1) == 0 {
				return 0
			}
			continue
		}
		d := int64(s.take(n))
		if d > 1<<(n-1) {
			d -= 1 << n
		}
		s.asks(len(turn(d)) == map[int]int{14: 16, 17: 20, 20: 24}[n]) // it would not stand in fewer
		return d
	}
	d := int64(s.take(64))
	s.asks(len(turn(d)) == 68)
	return d
}

func (s *loose) value(w *window) uint64 {
	if s.take(1) == 0 {
		return 0
	}
	if s.take(1) == 0 {
		s.asks(w.is)
		if s.wrong {
			return 0
		}
		x := s.take(64-w.l-w.t) << w.t
		s.asks(x != 0)
		return x
	}
	l, n := int(s.take(5)), int(s.take(6))
	if n == 0 {
		n = 64
	}
	t := 64 - l - n
	if s.asks(t >= 0); s.wrong {
		return 0
	}
	x := s.take(n) << t
	gotL, gotT := noughts(x)
	s.asks(x != 0 && gotL == l && gotT == t && !(w.is && l >= w.l && t >= w.t))
	*w = window{true, l, t}
	return x
}

// read are the points of a chunk; false, if the bytes are none.
func read(b []byte) ([]api.Dot, bool) {
	if len(b) < 2 {
		return nil, false
	}
	var text strings.Builder
	for _, x := range b[2:] {
		text.WriteString(number(uint64(x), 8))
	}
	s := &loose{bits: text.String()}
	var l []api.Dot
	var w window
	var x uint64
	for i := range int(b[0])*256 + int(b[1]) {
		var moment int64
		switch i {
		case 0:
			u := s.unsigned()
			moment = int64(u / 2)
			if u%2 == 1 {
				moment = -moment - 1
			}
			x = s.take(64)
		case 1:
			moment = int64(uint64(l[0].At) + s.unsigned())
			x ^= s.value(&w)
		default:
			moment = 2*l[i-1].At - l[i-2].At + s.turn()
			x ^= s.value(&w)
		}
		s.asks(i == 0 || moment > l[i-1].At)
		s.asks(x == word(float(x)))
		if s.wrong {
			return nil, false
		}
		l = append(l, api.Dot{At: moment, V: float(x)})
	}
	return l, len(s.bits) < 8 && strings.Trim(s.bits, "0") == ""
}

// edges are differences of steps that stand at the edges of what so many bits hold.
func edges() []int64 {
	l := []int64{0, 1, -1}
	for _, n := range []int{7, 13, 14, 16, 17, 19, 20, 31, 32, 62} {
		for d := int64(-2); d <= 2; d++ {
			l = append(l, 1<<n+d, -1<<n+d)
		}
	}
	return l
}

func someValue(r *rand.Rand, last float64) float64 {
	switch r.Intn(8) {
	case 0, 1:
		return last
	case 2:
		return float64(r.Intn(1000))
	case 3:
		return []float64{0, minus, inf, -inf, nan, float(0xfff8000000000123), float(0x7ff0000000000001), math.MaxFloat64, math.SmallestNonzeroFloat64}[r.Intn(9)]
	case 4:
		return float(r.Uint64())
	case 5:
		return float(math.Float64bits(last) ^ 1<<r.Intn(64))
	case 6: // all widths of what differs, at all places
		upper := r.Intn(64)
		lower := r.Intn(64 - upper)
		return float(math.Float64bits(last) ^ r.Uint64()>>upper>>lower<<lower)
	}
	return last + 1
}

// some are points whose moments rise; their steps differ by what often stands at an edge.
func some(r *rand.Rand, most int) []api.Dot {
	all := edges()
	first := []int64{0, 1, -1, 63, 64, -64, -65, math.MinInt64, math.MinInt64 + 1, 1 << 40, r.Int63(), -r.Int63(), 1700000000000}[r.Intn(13)]
	l := []api.Dot{{At: first, V: someValue(r, 0)}}
	step := []int64{1, 15000, 127, 128, 1 << 30, 1 + r.Int63n(1<<20)}[r.Intn(6)]
	for len(l) < most {
		last := l[len(l)-1]
		if d := all[r.Intn(len(all))]; r.Intn(2) == 0 && step+d > 0 {
			step += d
		}
		if r.Intn(40) == 0 {
			step = 1 + r.Int63()>>r.Intn(63)
		}
		if last.At+step <= last.At {
			return l
		}
		l = append(l, api.Dot{At: last.At + step, V: someValue(r, last.V)})
	}
	return l
}

func encoded(t *testing.T, l []api.Dot) []byte {
	t.Helper()
	b, why, i := chunk.Encode(l)
	if why != api.OK || i != 0 {
		t.Fatalf("Encode of %d points: error %d, %d", len(l), why, i)
	}
	return b
}

// encodes holds Encode, Bits, Decode of points against the second telling.
func encodes(t *testing.T, l []api.Dot) {
	t.Helper()
	bits := told(l)
	want := bytesOf(len(l), bits)
	if b := encoded(t, l); !bytes.Equal(b, want) {
		t.Fatalf("Encode(%v): % x, want % x", l, b, want)
	}
	if n, why := chunk.Bits(l); n != len(bits) || why != api.OK {
		t.Fatalf("Bits(%v): %d, error %d, want %d", l, n, why, len(bits))
	}
	if got, why := chunk.Decode(want); !same(got, plain(l)) || why != api.OK {
		t.Fatalf("Decode(% x): %v, error %d, want %v", want, got, why, l)
	}
}

// refuses holds all that reads bytes against what is no chunk.
func refuses(t *testing.T, name string, b []byte) {
	t.Helper()
	if l, why := chunk.Decode(b); l != nil || why != api.ErrChunk {
		t.Errorf("%s: Decode(% x): %v, error %d", name, b, l, why)
	}
	if c, why := chunk.Open(b); c != nil || why != api.ErrChunk {
		t.Errorf("%s: Open(% x): error %d", name, b, why)
	}
}
