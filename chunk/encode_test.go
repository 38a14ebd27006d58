package chunk_test

import (
	"bytes"
	"math"
	"math/rand"
	"slices"
	"strings"
	"testing"

	"abacus/api"
	"abacus/chunk"
)

func TestExamples(t *testing.T) { // examples 1 to 3
	for _, x := range []struct {
		l    []api.Dot
		want []byte
		bits int
	}{
		{nil, []byte{0, 0}, 0},
		{[]api.Dot{}, []byte{0, 0}, 0},
		{dots(0, 0), []byte{0, 1, 0, 0, 0, 0, 0, 0, 0, 0, 0}, 72},
		{dots(1, 1), []byte{0, 1, 2, 0x3f, 0xf0, 0, 0, 0, 0, 0, 0}, 72},
		{dots(1, 1, 2, 1), []byte{0, 2, 2, 0x3f, 0xf0, 0, 0, 0, 0, 0, 0, 1, 0}, 81},
		{dots(1, 1, 2, 1, 3, 1), []byte{0, 3, 2, 0x3f, 0xf0, 0, 0, 0, 0, 0, 0, 1, 0}, 83},
		{dots(1, 1, 2, 2), bytesOf(2, number(2, 8)+number(0x3ff0000000000000, 64)+number(1, 8)+"11"+"00001"+"001011"+"11111111111"), 104},
	} {
		if b := encoded(t, x.l); !bytes.Equal(b, x.want) {
			t.Errorf("Encode(%v): % x, want % x", x.l, b, x.want)
		}
		if n, why := chunk.Bits(x.l); n != x.bits || why != api.OK {
			t.Errorf("Bits(%v): %d, error %d, want %d", x.l, n, why, x.bits)
		}
		if l, why := chunk.Decode(x.want); !same(l, x.l) || why != api.OK {
			t.Errorf("Decode(% x): %v, error %d", x.want, l, why)
		}
	}
	refuses(t, "no point where one should be", []byte{0, 1})
	refuses(t, "a byte too many", []byte{0, 0, 0})
	if b, why, i := chunk.Encode(at(5, 5)); b != nil || why != api.ErrOrder || i != 1 {
		t.Errorf("Encode of two points at 5: % x, error %d, %d", b, why, i)
	}
}

// behind is a text of bits behind the first point of (1, 0), (2, 0), whose step is 1.
func behind(bits string) []byte {
	return bytesOf(3, number(2, 8)+number(0, 64)+number(1, 8)+"0"+bits)
}

func TestMoments(t *testing.T) { // the words, 19.1
	for _, x := range []struct {
		at   int64
		want string
	}{
		{0, "00000000"}, {-1, "00000001"}, {1, "00000010"}, {63, "01111110"}, {-64, "01111111"},
		{64, "10000000" + "00000001"}, {-65, "10000001" + "00000001"}, {8191, "11111110" + "01111111"}, {8192, "10000000" + "10000000" + "00000001"},
		{math.MaxInt64, "11111110" + strings.Repeat("11111111", 8) + "00000001"},
		{math.MinInt64, strings.Repeat("11111111", 9) + "00000001"},
	} {
		l := []api.Dot{{At: x.at, V: 2}}
		if b := encoded(t, l); !bytes.Equal(b, bytesOf(1, x.want+number(0x4000000000000000, 64))) {
			t.Errorf("At %d: % x", x.at, b)
		}
		encodes(t, l)
	}
	for _, x := range []struct {
		first, second int64
		want          string
	}{
		{0, 1, "00000001"}, {0, 127, "01111111"}, {0, 128, "10000000" + "00000001"}, {-5, 11, "00010000"},
		{-1, math.MaxInt64, strings.Repeat("10000000", 9) + "00000001"},
		{math.MinInt64, math.MaxInt64, strings.Repeat("11111111", 9) + "00000001"},
		{math.MinInt64, math.MinInt64 + 1, "00000001"}, {math.MaxInt64 - 1, math.MaxInt64, "00000001"},
	} {
		l := at(x.first, x.second)
		if b := encoded(t, l); !bytes.Equal(b, bytesOf(2, signed(x.first)+number(0, 64)+x.want+"0")) {
			t.Errorf("At %d and %d: % x", x.first, x.second, b)
		}
		encodes(t, l)
	}
}

func TestSteps(t *testing.T) { // the words, 19.1
	for _, x := range []struct {
		d    int64
		want string
	}{
		{0, "0"},
		{1, "10" + "00000000000001"}, {8192, "10" + "10000000000000"}, {8191, "10" + "01111111111111"},
		{8193, "110" + "00010000000000001"}, {65536, "110" + "10000000000000000"},
		{65537, "1110" + "00010000000000000001"}, {524288, "1110" + "10000000000000000000"},
		{524289, "1111" + number(524289, 64)}, {math.MaxInt64 - 3, "1111" + number(math.MaxInt64-3, 64)},
	} {
		l := at(1, 2, 3+x.d)
		if b := encoded(t, l); !bytes.Equal(b, behind(x.want+"0")) {
			t.Errorf("the difference %d: % x", x.d, b)
		}
		encodes(t, l)
	}
	const long = 1 << 40
	for _, x := range []struct {
		d    int64
		want string
	}{
		{-1, "10" + "11111111111111"}, {-8191, "10" + "10000000000001"}, {-8192, "110" + "11110000000000000"},
		{-65535, "110" + "10000000000000001"}, {-65536, "1110" + "11110000000000000000"},
		{-524287, "1110" + "10000000000000000001"}, {-524288, "1111" + strings.Repeat("1", 45) + strings.Repeat("0", 19)},
		{1 - long, "1111" + number(1<<64-long+1, 64)},
	} {
		l := at(0, long, 2*long+x.d)
		if b := encoded(t, l); !bytes.Equal(b, bytesOf(3, number(0, 72)+unsigned(long)+"0"+x.want+"0")) {
			t.Errorf("the difference %d: % x", x.d, b)
		}
		encodes(t, l)
	}
	// Differences of steps that wrap round: the one step, or both, are 2^63 or more.
	encodes(t, at(math.MinInt64, 1, 2))
	encodes(t, at(math.MinInt64, math.MaxInt64-1, math.MaxInt64))
	encodes(t, at(math.MinInt64, math.MinInt64+1, math.MaxInt64))
	encodes(t, at(math.MinInt64, math.MinInt64+1, math.MinInt64+2, 0, math.MaxInt64))
	encodes(t, at(-2, -1, math.MaxInt64))
	for _, d := range edges() {
		if d > 0 && d < 1<<61 {
			encodes(t, at(5, 6, 7+d, 8+2*d, 9+2*d))
			encodes(t, at(0, d, 2*d+1, 3*d+1))
		}
	}
}

// pair are bits of two points: of a value, and of what the second one differs in.
func pair(first uint64, bits string) []byte {
	return bytesOf(2, number(2, 8)+number(first, 64)+number(1, 8)+bits)
}

func TestValues(t *testing.T) { // the words, 19.1
	const all = 1<<64 - 1
	for _, x := range []struct {
		first, second uint64
		want          string
	}{
		{5, 5, "0"},
		{0, 1, "11" + "11111" + "100001" + number(1, 33)}, // 63 noughts are told as 31
		{0, 1 << 32, "11" + "11111" + "000001" + "1"},     // 31
		{0, 1 << 33, "11" + "11110" + "000001" + "1"},
		{0, 3 << 31, "11" + "11111" + "000010" + "11"},
		{0, 1 << 31, "11" + "11111" + "000010" + "01"}, // 32, told as 31
		{0, 1 << 63, "11" + "00000" + "000001" + "1"},
		{0, 1<<63 | 1, "11" + "00000" + "000000" + "1" + number(1, 63)}, // all 64 of them
		{1 << 63, all >> 12, "11" + "00000" + "000000" + "1" + "00000000000" + strings.Repeat("1", 52)},
		{1 << 63, 1 << 62, "11" + "00000" + "000010" + "11"},
		{0x3ff0000000000000, 0x4000000000000000, "11" + "00001" + "001011" + "11111111111"},
		{noNumber, noNumber, "0"},
		{0xfff0000000000001, 0x7ff4000000000000, "0"}, // both are no number
		{noNumber, 0x7ff0000000000000, "11" + "01100" + "110100" + "1" + number(1, 51)},
	} {
		l := of(x.first, x.second)
		if b := encoded(t, l); !bytes.Equal(b, pair(word(float(x.first)), x.want)) {
			t.Errorf("%x behind %x: % x", x.second, x.first, b)
		}
		encodes(t, l)
	}
}

func TestFrames(t *testing.T) { // the words, 19.1
	const first = 0x0ff0 << 32 // 20 noughts above, 36 below, eight bits between
	begin := number(2, 8) + number(0, 64) + number(1, 8) + "11" + "10100" + "001000" + "11111111"
	for _, x := range []struct {
		name string
		x    uint64
		want string
	}{
		{"none", 0, "0"},
		{"just so", first, "10" + "11111111"},
		{"its highest bit", 0x0800 << 32, "10" + "10000000"},
		{"its lowest bit", 0x0010 << 32, "10" + "00000001"},
		{"in the midst", 0x0180 << 32, "10" + "00011000"},
		{"one above", 0x1000 << 32, "11" + "10011" + "000001" + "1"},
		{"one below", 0x0008 << 32, "11" + "11100" + "000001" + "1"},
		{"one more above", 0x1ff0 << 32, "11" + "10011" + "001001" + "111111111"},
		{"one more below", 0x0ff8 << 32, "11" + "10100" + "001001" + "111111111"},
		{"from end to end", 1<<63 | 1, "11" + "00000" + "000000" + "1" + number(1, 63)},
		{"far below", 1, "11" + "11111" + "100001" + number(1, 33)},
	} {
		l := of(0, first, first^x.x)
		if b := encoded(t, l); !bytes.Equal(b, bytesOf(3, begin+"0"+x.want)) {
			t.Errorf("%s: % x", x.name, b)
		}
		encodes(t, l)
	}
	// The frame is the last one that was told, which need not be the widest one; the same bits again lie in it.
	encodes(t, of(0, 0x0ff0<<32, 0x0ff0<<32^1<<63, 0x0ff0<<32, 0x0ff0<<32^1<<63, 0x0ff8<<32, 0))
	if b := encoded(t, of(0, 1<<32, 1<<32, 1<<32^1<<32, 1<<32^1<<33)); !bytes.Equal(b, bytesOf(5,
		number(2, 8)+number(0, 64)+number(1, 8)+"11"+"11111"+"000001"+"1"+"0"+"0"+"0"+"10"+"1"+"0"+"11"+"11110"+"000010"+"11")) {
		t.Errorf("a frame that comes again: % x", b)
	}
	// One of which 31 noughts were told is one of whatever has more of them.
	encodes(t, of(0, 3<<31, 1<<31, 0, 1<<32, 1<<33))
	encodes(t, of(0, 1, 2, 3, 1<<32, 1<<33, 1))
}

func TestEncodeRefuses(t *testing.T) { // 19.1
	full := steady(api.MaxPoints + 2)
	wrong := slices.Clone(full)
	wrong[3].At = wrong[2].At
	for _, x := range []struct {
		name string
		l    []api.Dot
		why  api.Errno
		i    int
	}{
		{"the same", at(5, 5), api.ErrOrder, 1},
		{"one that falls", at(5, 4), api.ErrOrder, 1},
		{"from the most to the least", at(math.MaxInt64, math.MinInt64), api.ErrOrder, 1},
		{"the last one", at(1, 2, 3, 7, 7), api.ErrOrder, 4},
		{"the first one of two", at(1, 3, 2, 4, 3), api.ErrOrder, 2},
		{"not above the one ahead, though above the first", at(-5, 0, -1), api.ErrOrder, 2},
		{"one too many", full[:api.MaxPoints+1], api.ErrMany, api.MaxPoints},
		{"two too many", full, api.ErrMany, api.MaxPoints},
		{"too many ahead of what does not rise", wrong, api.ErrMany, api.MaxPoints},
		{"what does not rise, of as many as may be", wrong[:api.MaxPoints], api.ErrOrder, 3},
	} {
		if b, why, i := chunk.Encode(x.l); b != nil || why != x.why || i != x.i {
			t.Errorf("%s: %d bytes, error %d, %d, want error %d, %d", x.name, len(b), why, i, x.why, x.i)
		}
		if n, why := chunk.Bits(x.l); n != 0 || why != x.why {
			t.Errorf("%s: Bits %d, error %d", x.name, n, why)
		}
	}
	b := encoded(t, full[:api.MaxPoints])
	if b[0] != 0xff || b[1] != 0xff {
		t.Errorf("the count of as many as may be: % x", b[:2])
	}
	if l, why := chunk.Decode(b); !same(l, full[:api.MaxPoints]) || why != api.OK {
		t.Errorf("as many as may be: %d points, error %d", len(l), why)
	}
	for _, n := range []int{255, 256, 257} { // the higher byte first
		if b := encoded(t, full[:n]); int(b[0])<<8|int(b[1]) != n {
			t.Errorf("the count %d: % x", n, b[:2])
		}
	}
}

func TestEncodeOfAny(t *testing.T) { // 19.1, 19.4
	r := rand.New(rand.NewSource(19))
	for range 4000 {
		encodes(t, some(r, 1+r.Intn(60)))
	}
	encodes(t, some(r, 5000))
}

func TestFew(t *testing.T) { // 19.6
	r := rand.New(rand.NewSource(6))
	for range 200 {
		first, step, v := r.Int63n(1<<40)-1<<39, 1+r.Int63n(1<<30), someValue(r, 1)
		var l []api.Dot
		least := 0
		for n := range 50 {
			l = append(l, api.Dot{At: first + int64(n)*step, V: v})
			bits, why := chunk.Bits(l)
			if n == 1 {
				least = bits
			}
			if n > 1 && bits != least+2*(n-1) || why != api.OK {
				t.Fatalf("%d points of the step %d and the value %v: %d bits, error %d; two are %d", n+1, step, v, bits, why, least)
			}
		}
	}
}
