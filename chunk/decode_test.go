package chunk_test

import (
	"bytes"
	"math"
	"math/rand"
	"slices"
	"strings"
	"testing"

	"abacus/api"
	"abacus/chunk"
)

var (
	zero    = number(0, 64)
	first   = number(2, 8) + zero                   // At 1, 0
	begin   = first + number(1, 8) + "0"            // and At 2, 0
	bigStep = number(0, 72) + unsigned(1<<40) + "0" // At 0, 0, and At 2^40, 0
)

// faults are bits behind a count that are none of a chunk.
var faults = []struct {
	name  string
	count int
	bits  string
}{
	{"a count alone", 1, ""},
	{"a byte behind no points", 0, "00000000"},
	{"half a moment", 1, "1000000"},
	{"a moment alone", 1, number(2, 8)},
	{"a moment without an end", 1, strings.Repeat("1", 640)},
	{"a moment of eleven bytes", 1, strings.Repeat("10000000", 10) + "00000000" + zero},
	{"a moment with bits beyond the 64th", 1, strings.Repeat("11111111", 9) + "00000011" + zero},
	{"a moment with a byte that says nothing", 1, "10000010" + "00000000" + zero},
	{"nothing with a byte that says nothing", 1, "10000000" + "00000000" + zero},
	{"a value cut short", 1, number(2, 8) + zero[8:]},
	{"no number by other bits", 1, number(2, 8) + number(0x7ff8000000000000, 64)},
	{"no number below nothing", 1, number(2, 8) + number(0xfff8000000000001, 64)},
	{"no number that signals", 1, number(2, 8) + number(0x7ff0000000000001, 64)},
	{"a byte too many", 1, first + "00000000"},
	{"a point that is not counted", 1, begin},
	{"a point too few", 2, first},
	{"more points than the filling tells", 6, begin}, // it is seven bits
	{"a step of nothing", 2, first + "00000000" + "0"},
	{"a step with a byte that says nothing", 2, first + "10000001" + "00000000" + "0"},
	{"a step of 2^64 - 1", 2, first + strings.Repeat("11111111", 9) + "00000001" + "0"},
	{"a step of 2^63", 2, first + strings.Repeat("10000000", 9) + "00000001" + "0"},
	{"a step with bits beyond the 64th", 2, first + strings.Repeat("10000000", 9) + "00000010" + "0"},
	{"a step without a value", 2, first + number(1, 8)},
	{"the filling has a one", 2, begin + "0000001"},
	{"the filling begins with a one", 2, begin + "1"},
	{"no difference in 14 bits", 3, begin + "10" + number(0, 14) + "0"},
	{"no difference in 64 bits", 3, begin + "1111" + zero + "0"},
	{"what 14 bits hold in 17", 3, begin + "110" + number(8192, 17) + "0"},
	{"what 14 bits hold in 20", 3, begin + "1110" + number(1, 20) + "0"},
	{"what 17 bits hold in 20", 3, begin + "1110" + number(65536, 20) + "0"},
	{"what 20 bits hold in 64", 3, begin + "1111" + number(524288, 64) + "0"},
	{"what 14 bits hold below nothing in 17", 3, bigStep + "110" + number(1<<17-8191, 17) + "0"},
	{"what 17 bits hold below nothing in 20", 3, bigStep + "1110" + number(1<<20-65535, 20) + "0"},
	{"what 20 bits hold below nothing in 64", 3, bigStep + "1111" + number(1<<64-524287, 64) + "0"},
	{"a step back to where it was", 3, begin + "10" + number(1<<14-1, 14) + "0"},
	{"a step back", 3, begin + "10" + number(1<<14-2, 14) + "0"},
	{"a step that wraps round", 3, begin + "1111" + number(1<<63-2, 64) + "0"},
	{"a difference cut short", 3, begin + "1110" + "0000"},
	{"half a sign", 3, begin + "111"},
	{"bits in a frame that is not there", 2, first + number(1, 8) + "10" + "1"},
	{"bits in a frame that is not there, all of them", 2, first + number(1, 8) + "10" + number(1, 64)},
	{"nothing in a frame of its own", 2, first + number(1, 8) + "11" + "11111" + "000001" + "0"},
	{"nothing in a frame of 33", 2, first + number(1, 8) + "11" + "11111" + "100001" + number(0, 33)},
	{"a nought too few told above", 2, first + number(1, 8) + "11" + "00000" + "000010" + "01"},
	{"noughts above 31 that need not be told", 2, first + number(1, 8) + "11" + "11110" + "000011" + "001"},
	{"a nought told below", 2, first + number(1, 8) + "11" + "00000" + "000010" + "10"},
	{"a frame beyond the 64th bit", 2, first + number(1, 8) + "11" + "00001" + "000000" + number(1<<63, 64)},
	{"a frame far beyond", 2, first + number(1, 8) + "11" + "11111" + "111111" + number(1<<62, 63)},
	{"a frame cut short", 2, first + number(1, 8) + "11" + "000"},
	{"a frame's bits cut short", 2, first + number(1, 8) + "11" + "00000" + "111111" + "1"},
	{"no number by a difference", 2, first + number(1, 8) + "11" + "00001" + "001101" + "1111111111101"},
	{"a frame where the last one would do", 3, first + number(1, 8) + "11" + "00000" + "000010" + "11" + "0" + "11" + "00000" + "000001" + "1"},
	{"the last frame once more", 3, first + number(1, 8) + "11" + "00000" + "000010" + "11" + "0" + "11" + "00000" + "000010" + "11"},
	{"nothing in the last frame", 3, first + number(1, 8) + "11" + "00000" + "000010" + "11" + "0" + "10" + "00"},
}

func TestDecodeRefuses(t *testing.T) { // 19.1: each fault that bytes can have
	for _, x := range faults {
		refuses(t, x.name, bytesOf(x.count, x.bits))
		if _, is := read(bytesOf(x.count, x.bits)); is {
			t.Errorf("%s: the second telling takes it", x.name)
		}
	}
	refuses(t, "nothing", nil)
	refuses(t, "nothing at all", []byte{})
	refuses(t, "one byte", []byte{0})
	refuses(t, "as many points as may be, of no bits", []byte{0xff, 0xff})
	refuses(t, "as many points as may be, of many bits", append([]byte{0xff, 0xff}, make([]byte, 1<<16)...))
}

func TestDecodeTakes(t *testing.T) { // 19.1: just beside what is refused
	for _, x := range []struct {
		name  string
		count int
		bits  string
		want  []api.Dot
	}{
		{"the greatest moment", 1, "11111110" + strings.Repeat("11111111", 8) + "00000001" + zero, at(math.MaxInt64)},
		{"the least moment", 1, strings.Repeat("11111111", 9) + "00000001" + zero, at(math.MinInt64)},
		{"no number", 1, number(2, 8) + number(noNumber, 64), of(noNumber)},
		{"points in what would be the filling", 5, begin, at(1, 2, 3, 4, 5)},
		{"the longest step", 2, strings.Repeat("11111111", 9) + "00000001" + zero + strings.Repeat("11111111", 9) + "00000001" + "0", at(math.MinInt64, math.MaxInt64)},
		{"a step to the greatest moment", 3, begin + "1111" + number(math.MaxInt64-3, 64) + "0", at(1, 2, math.MaxInt64)},
		{"as far back as it may", 3, bigStep + "1111" + number(1<<64-1<<40+1, 64) + "0", at(0, 1<<40, 1<<40+1)},
		{"the lowest bit", 2, first + number(1, 8) + "11" + "11111" + "100001" + number(1, 33), of(0, 1)},
		{"all bits", 2, first + number(1, 8) + "11" + "00000" + "000000" + "1" + number(1, 63), of(0, 1<<63|1)},
		{"the last frame", 3, first + number(1, 8) + "11" + "00000" + "000010" + "11" + "0" + "10" + "01", of(0, 3<<62, 1<<63)},
		{"no number by a difference", 2, first + number(1, 8) + "11" + "00001" + "111111" + number(noNumber, 63), of(0, noNumber)},
	} {
		b := bytesOf(x.count, x.bits)
		if l, why := chunk.Decode(b); !same(l, x.want) || why != api.OK {
			t.Errorf("%s: Decode(% x): %v, error %d, want %v", x.name, b, l, why, x.want)
		}
		c, why := chunk.Open(b)
		if why != api.OK || c.Count() != len(x.want) || !bytes.Equal(c.Bytes(), b) {
			t.Errorf("%s: Open(% x): error %d", x.name, b, why)
		}
	}
}

// decodes holds Decode and Open of any bytes against the second telling; it tells whether they are a chunk.
func decodes(t *testing.T, b []byte) bool {
	t.Helper()
	want, is := read(b)
	why := api.OK
	if !is {
		want, why = nil, api.ErrChunk
	}
	kept := bytes.Clone(b)
	if l, e := chunk.Decode(b); !same(l, want) || e != why {
		t.Fatalf("Decode(% x): %v, error %d, want %v, error %d", b, l, e, want, why)
	}
	c, e := chunk.Open(b)
	if e != why || (c != nil) != is || c.Count() != len(want) {
		t.Fatalf("Open(% x): error %d, want %d", b, e, why)
	}
	if !bytes.Equal(b, kept) {
		t.Fatalf("what was handed in is changed: % x, was % x", b, kept)
	}
	if is {
		if again := encoded(t, want); !bytes.Equal(again, b) {
			t.Fatalf("Encode of what Decode takes: % x, want % x", again, b)
		}
	}
	return is
}

func TestDecodeOfCutAndChanged(t *testing.T) { // 19.1, 19.4
	r := rand.New(rand.NewSource(20))
	taken := 0
	for range 150 {
		l := some(r, 1+r.Intn(12))
		b := encoded(t, l)
		for n := range b { // cut
			if decodes(t, b[:n]) {
				t.Fatalf("% x cut to %d bytes is a chunk", b, n)
			}
		}
		for _, more := range [][]byte{{0}, {1}, {0xff}, {0, 0}, b} { // lengthened
			if decodes(t, slices.Concat(b, more)) {
				t.Fatalf("% x with % x behind is a chunk", b, more)
			}
		}
		for i := range 8 * len(b) { // one bit changed
			x := bytes.Clone(b)
			x[i/8] ^= 1 << (i % 8)
			if decodes(t, x) {
				taken++
			}
		}
		for range 50 { // some bits changed
			x := bytes.Clone(b)
			for range 1 + r.Intn(5) {
				x[r.Intn(len(x))] ^= 1 << r.Intn(8)
			}
			decodes(t, x)
		}
		bits := told(l)
		for range 50 { // some bits cut out, or laid in
			i := r.Intn(len(bits) + 1)
			n := r.Intn(min(20, len(bits)-i) + 1)
			decodes(t, bytesOf(len(l), bits[:i]+number(r.Uint64(), r.Intn(20))+bits[i+n:]))
		}
	}
	if taken == 0 {
		t.Error("no chunk with a bit changed is one: values' bits should be free")
	}
}

func TestDecodeOfAny(t *testing.T) { // 19.1, P1
	for a := range 256 { // all bytes of up to two behind a count
		for _, count := range []byte{0, 1, 2} {
			decodes(t, []byte{0, count, byte(a)})
		}
		decodes(t, []byte{byte(a)})
		decodes(t, []byte{byte(a), 0})
	}
	first := bytesOf(2, number(2, 8)+number(0, 64)+number(1, 8))
	for a := range 1 << 16 { // all first two bytes of a second value
		decodes(t, append(bytes.Clone(first), byte(a>>8), byte(a)))
		first[1] = 3
		decodes(t, append(bytes.Clone(first), byte(a>>8), byte(a)))
		first[1] = 2
	}
	r := rand.New(rand.NewSource(21))
	for range 20000 {
		b := make([]byte, r.Intn(40))
		r.Read(b)
		if len(b) > 2 {
			b[0], b[1] = 0, byte(r.Intn(5))
		}
		if len(b) > 11 && r.Intn(2) == 0 {
			copy(b[2:], []byte{2, 0x3f, 0xf0, 0, 0, 0, 0, 0, 0, 1})
		}
		decodes(t, b)
	}
}

func TestNoNumber(t *testing.T) { // 19.1, 19.4
	for _, x := range []uint64{noNumber, 0x7ff8000000000000, 0xfff8000000000001, 0x7ff0000000000001, 0xffffffffffffffff} {
		l := []api.Dot{{At: 1, V: float(x)}, {At: 2, V: 1}, {At: 3, V: float(x)}, {At: 4, V: nan}}
		encodes(t, l)
		c := chunk.New()
		for _, p := range l {
			c.Append(p)
		}
		var got []api.Dot
		for p := range c.Points(2) {
			got = append(got, p)
		}
		if !same(got, []api.Dot{{At: 2, V: 1}, {At: 3, V: float(noNumber)}, {At: 4, V: float(noNumber)}}) {
			t.Errorf("Points of %x: %v", x, got)
		}
	}
}
