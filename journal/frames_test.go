package journal_test

import (
	"bytes"
	"hash/crc32"
	"math/rand"
	"slices"
	"testing"

	"abacus/api"
	"abacus/journal"
)

func TestSum(t *testing.T) { // 27.1
	for s, want := range map[string]uint32{
		"": 0, "123456789": 0xe3069283, "a": 0xc1d04330,
		string(make([]byte, 32)):                    0x8a9136aa, // these four of RFC 3720, B.4
		string(bytes.Repeat([]byte{255}, 32)):       0x62a8ab43,
		string(rising(0, 1)):                        0x46dd794e,
		string(rising(31, -1)):                      0x113fdb5c,
		string(make([]byte, 1)):                     0x527d5351,
		string(bytes.Repeat([]byte{0}, 1<<17)):      crc32.Checksum(make([]byte, 1<<17), crc32.MakeTable(crc32.Castagnoli)),
		string(bytes.Repeat([]byte("abc"), 100000)): crc32.Checksum(bytes.Repeat([]byte("abc"), 100000), crc32.MakeTable(crc32.Castagnoli)),
	} {
		if got := journal.Sum([]byte(s)); got != want {
			t.Errorf("Sum(%.20q ..): %x, want %x", s, got, want)
		}
	}
	if journal.Sum(nil) != 0 {
		t.Error("Sum of nil:", journal.Sum(nil))
	}
}

// rising are 32 bytes from one on.
func rising(from, step int) []byte {
	var b []byte
	for i := range 32 {
		b = append(b, byte(from+i*step))
	}
	return b
}

func TestSumOfAnyBytes(t *testing.T) { // 27.1
	r := rand.New(rand.NewSource(1))
	for range 3000 {
		b := make([]byte, r.Intn(300))
		r.Read(b)
		if got, want := journal.Sum(b), crc32.Checksum(b, crc32.MakeTable(crc32.Castagnoli)); got != want {
			t.Fatalf("Sum(%x): %x, want %x", b, got, want)
		}
	}
}

func TestFrame(t *testing.T) { // 27.1
	for _, n := range []int{1, 2, 127, 128, 255, 256, 257, 65535, api.MaxPayload} {
		record := bytes.Repeat([]byte{byte(n), 7, 0}, n)[:n]
		if got, why := journal.Frame(record); !bytes.Equal(got, framed(record)) || why != api.OK {
			t.Errorf("Frame of %d bytes: %d bytes, error %d", n, len(got), why)
		}
	}
	for _, n := range []int{0, api.MaxPayload + 1, 1 << 20} {
		if got, why := journal.Frame(make([]byte, n)); len(got) != 0 || why != api.ErrRange {
			t.Errorf("Frame of %d bytes: %d bytes, error %d", n, len(got), why)
		}
	}
	if got, why := journal.Frame(nil); len(got) != 0 || why != api.ErrRange {
		t.Error("Frame of nil:", got, why)
	}
}

func reads(t *testing.T, b []byte, n int, why api.Errno, want ...[]byte) {
	t.Helper()
	got, m, e := journal.Read(b)
	if !sameBytes(got, want) || m != n || e != why {
		t.Errorf("Read(%.60x): %d records, %d, error %d, want %d records, %d, error %d", b, len(got), m, e, len(want), n, why)
	}
}

func TestRead(t *testing.T) { // 27.1, 27.11
	reads(t, nil, 0, api.OK)
	reads(t, []byte{}, 0, api.OK)
	var all []byte
	var records [][]byte
	for _, n := range []int{1, api.MaxPayload, 1, 300, 2, api.MaxPayload - 1} {
		record := bytes.Repeat([]byte{byte(n), 1, 9}, n)[:n]
		records = append(records, record)
		all = append(all, framed(record)...)
		reads(t, all, len(all), api.OK, records...)
		for _, rest := range [][]byte{{0}, {1, 0}, make([]byte, 8), make([]byte, 9), bytes.Repeat([]byte{255}, 20)} {
			reads(t, slices.Concat(all, rest), len(all), api.ErrTorn, records...)
		}
	}
}

// Bytes that are nearly a frame are none, and what stands behind them is not read.
func TestReadOfWhatIsNoFrame(t *testing.T) { // 27.1
	good := framed([]byte("good"))
	for name, bad := range map[string][]byte{
		"a length of 0":         {0, 0, 0, 0, 0, 0, 0, 0},
		"a length of 0, a byte": {0, 0, 0, 0, 0, 0, 0, 0, 1},
		"one byte too long":     framed(make([]byte, api.MaxPayload+1)),
		"far too long":          framed(make([]byte, 1<<17)),
		"a length beyond all":   {255, 255, 255, 255, 0, 0, 0, 0, 1, 2, 3},
		"a length below 0":      {1, 0, 0, 128, 0, 0, 0, 0, 1, 2, 3},
		"the highest first":     {0, 0, 0, 1, 0x30, 0x43, 0xd0, 0xc1, 'a'},
		"another sum":           {1, 0, 0, 0, 0x31, 0x43, 0xd0, 0xc1, 'a'},
		"another high byte":     {1, 0, 0, 0, 0x30, 0x43, 0xd0, 0xc0, 'a'},
		"the sum turned":        {1, 0, 0, 0, 0xc1, 0xd0, 0x43, 0x30, 'a'},
		"another record":        {1, 0, 0, 0, 0x30, 0x43, 0xd0, 0xc1, 'b'},
		"a sum of nothing":      {1, 0, 0, 0, 0, 0, 0, 0, 'a'},
	} {
		reads(t, bad, 0, api.ErrTorn)
		reads(t, slices.Concat(bad, good), 0, api.ErrTorn)
		reads(t, slices.Concat(good, good, bad, good), 2*len(good), api.ErrTorn, []byte("good"), []byte("good"))
		if t.Failed() {
			t.Fatal(name)
		}
	}
}

func TestReadOfFramesCutAnywhere(t *testing.T) { // 27.1, 27.8
	var all []byte
	var ends []int
	var records [][]byte
	for i := range 6 {
		record := bytes.Repeat([]byte{byte(i)}, 1+i*i*3)
		records = append(records, record)
		all = append(all, framed(record)...)
		ends = append(ends, len(all))
	}
	for cut := range all {
		whole, _ := slices.BinarySearch(ends, cut+1)
		n, why := 0, api.ErrTorn
		if whole > 0 {
			n = ends[whole-1]
		}
		if n == cut {
			why = api.OK
		}
		reads(t, all[:cut], n, why, records[:whole]...)
	}
}

func TestReadOfBytesTurned(t *testing.T) { // 27.1
	first := framed([]byte("first one"))
	all := slices.Concat(first, framed([]byte("x")))
	for bit := range 8 * len(all) {
		b := slices.Clone(all)
		b[bit/8] ^= 1 << (bit % 8)
		if bit < 8*len(first) {
			reads(t, b, 0, api.ErrTorn)
		} else {
			reads(t, b, len(first), api.ErrTorn, []byte("first one"))
		}
	}
}

func TestFramesAreNewMemory(t *testing.T) { // 27.7
	record := []byte("record")
	f, _ := journal.Frame(record)
	spoil(f, 0xee)
	g, _ := journal.Frame(record)
	if string(record) != "record" || !bytes.Equal(g, framed(record)) {
		t.Error("Frame:", record, g)
	}
	all := slices.Concat(g, g, g)
	l, _, _ := journal.Read(all)
	for i := range l {
		spoil(l[i], byte(i))
		if i > 0 && l[i-1][0] != byte(i-1) {
			t.Error("two records share memory")
		}
	}
	if !bytes.Equal(all, slices.Concat(g, g, g)) {
		t.Error("Read hands out what was handed in")
	}
	reads(t, all, len(all), api.OK, record, record, record)
}

func TestReadOfManyFrames(t *testing.T) { // 27.1, 27.11
	if testing.Short() {
		t.Skip()
	}
	one := framed([]byte{7})
	n := api.MaxSegment / len(one)
	got, m, why := journal.Read(bytes.Repeat(one, n))
	if len(got) != n || m != n*len(one) || why != api.OK || len(got[n-1]) != 1 || got[n-1][0] != 7 {
		t.Error(len(got), m, why)
	}
}
