package journal_test

import (
	"bytes"
	"encoding/binary"
	"math"
	"math/rand"
	"slices"
	"strings"
	"testing"

	"abacus/api"
	"abacus/journal"
)

func TestEncodeAndDecode(t *testing.T) { // 27.2, 27.11
	for _, e := range rightEntries() {
		b, why := journal.Encode(e)
		if !bytes.Equal(b, recorded(e)) || why != api.OK {
			t.Errorf("Encode(%v): %x, error %d, want %x", e, b, why, recorded(e))
		}
		if got, why := journal.Decode(recorded(e)); !sameEntry(got, e) || why != api.OK {
			t.Errorf("Decode(%x): %v, error %d, want %v", recorded(e), got, why, e)
		}
	}
}

func TestEncodeByBytes(t *testing.T) { // 27.2
	for want, e := range map[string]api.Entry{
		"\x01\x01a\xac\x02": count("a", 300),
		"\x01\x01a\x00":     count("a", 0),
		"\x01\x01a\x7f":     count("a", 127),
		"\x01\x01a\x80\x01": count("a", 128),
		"\x01\x01a\x80\x80\x80\x80\x80\x80\x80\x80\x10": count("a", api.MaxHeld),
		"\x02\x02ab\x00\x00\x00\x00\x00\x00\xf8\x3f":    set("ab", 1.5),
		"\x02\x01a\x00\x00\x00\x00\x00\x00\x00\x80":     set("a", math.Copysign(0, -1)),
		"\x02\x01a\x01\x00\x00\x00\x00\x00\xf8\x7f":     set("a", odd),
		"\x03\x01a\x80\x80\x80\x80\x80\x20":             see("a", api.MaxSeen),
		"\x04\x01a\x01\x81\x01\x03\x04":                 held("a", 1, 129, 3, 4),
		"\x05\x01a":                                     drop("a"),
		"\x05\x40" + long:                               drop(long),
	} {
		if b, why := journal.Encode(e); string(b) != want || why != api.OK {
			t.Errorf("Encode(%v): %x, error %d, want %x", e, b, why, want)
		}
	}
}

func TestEncodeRefuses(t *testing.T) { // 27.2
	for name, e := range wrongEntries() {
		if b, why := journal.Encode(e); len(b) != 0 || why != api.ErrEntry {
			t.Errorf("%s: Encode(%v): %x, error %d", name, e, b, why)
		}
	}
}

func decodesNot(t *testing.T, b string) {
	t.Helper()
	if e, why := journal.Decode([]byte(b)); e != (api.Entry{}) || why != api.ErrEntry {
		t.Errorf("Decode(%x): %v, error %d", b, e, why)
	}
}

func TestDecodeRefuses(t *testing.T) { // 27.2
	for _, b := range []string{
		"", "\x01", "\x01\x01", "\x01\x00", "\x05\x00", "\x01\x01a", "\x05\x02a", "\x05\xffa", // cut
		"\x00\x01a", "\x06\x01a", "\xff\x01a\x01", // kinds
		"\x05\x01a\x00", "\x01\x01a\x01\x00", "\x03\x01a\x01\x01", "\x04\x01a\x01\x01\x01\x01\x01", // more
		"\x04\x01a\x01\x01\x01", "\x04\x01a", "\x04\x01a\x01\x01\x01\x81", // fewer
		"\x01\x01a\xac\x82\x00", "\x01\x01a\x80\x00", "\x01\x01a\x80", "\x04\x01a\x81\x00\x01\x01\x01", // needless
		"\x01\x019\x01", "\x01\x01-\x01", "\x01\x02\xc3\xa9\x01", "\x05\x03a b", // names
		"\x01\x41" + long + "n\x01",
		"\x02\x01a", "\x02\x01a\x00\x00\x00\x00\x00\x00\xf8", "\x02\x01a\x00\x00\x00\x00\x00\x00\xf8\x3f\x00", // floats
		"\x02\x01a\x00\x00\x00\x00\x00\x00\xf8\x7f", "\x02\x01a\x01\x00\x00\x00\x00\x00\xf8\xff", "\x02\x01a\x02\x00\x00\x00\x00\x00\xf8\x7f", "\x02\x01a\x01\x00\x00\x00\x00\x00\xf0\x7f", // other patterns
		"\x01\x01a\x81\x80\x80\x80\x80\x80\x80\x80\x10",             // MaxHeld + 1
		"\x01\x01a\xff\xff\xff\xff\xff\xff\xff\xff\x7f",             // 2^63 - 1
		"\x01\x01a\x80\x80\x80\x80\x80\x80\x80\x80\x80\x01",         // 2^63
		"\x01\x01a\x81\x80\x80\x80\x80\x80\x80\x80\x80\x02",         // 2^64 + 1
		"\x01\x01a\x81\x80\x80\x80\x80\x80\x80\x80\x80\x80\x01",     // 2^70 + 1
		"\x01\x01a" + strings.Repeat("\x80", 1000) + "\x01",         // without end
		"\x03\x01a\x81\x80\x80\x80\x80\x20",                         // MaxSeen + 1
		"\x04\x01a\x00\x00\x00\x00",                                 // holds none
		"\x04\x01a\x01\x00\x02\x01",                                 // the least above
		"\x04\x01a\x01\x00\x00\x81\x80\x80\x80\x80\x20",             // MaxSeen + 1
		"\x04\x01a\x01\x81\x80\x80\x80\x80\x80\x80\x80\x10\x00\x00", // a sum of MaxHeld + 1
		"\x01\x01a" + strings.Repeat("\x01", 1<<16),
	} {
		decodesNot(t, b)
	}
	if e, why := journal.Decode(nil); e != (api.Entry{}) || why != api.ErrEntry {
		t.Error("Decode of nil:", e, why)
	}
	for _, e := range rightEntries() {
		b := string(recorded(e))
		for cut := range b {
			decodesNot(t, b[:cut])
		}
		for _, c := range []string{"\x00", "\x01", "\x80", "\xff"} {
			decodesNot(t, b+c)
		}
	}
}

// Wrong entries that have a record's form are no more right for it.
func TestDecodeOfWrongEntries(t *testing.T) { // 27.2
	for name, e := range wrongEntries() {
		if len(e.Name) > 255 || e.Kind != api.EntrySet && e.X != 0 {
			continue // that can't be told by a record
		}
		b := recorded(e)
		got, why := journal.Decode(b)
		if back, _ := journal.Encode(got); why == api.OK && !bytes.Equal(back, b) || why != api.OK && got != (api.Entry{}) || why == api.OK && sameEntry(got, e) {
			t.Errorf("%s: Decode(%x): %v, error %d", name, b, got, why)
		}
	}
}

// read is the entry whose record bytes are, found by writing what they seem to say.
func read(b []byte) (api.Entry, bool) {
	if len(b) < 2 || len(b) < 2+int(b[1]) {
		return api.Entry{}, false
	}
	e := api.Entry{Kind: api.EntryKind(b[0]), Name: string(b[2 : 2+b[1]])}
	var rest []uint64
	numbers := b[2+int(b[1]):]
	if e.Kind == api.EntrySet && len(numbers) == 8 {
		e.X = math.Float64frombits(binary.LittleEndian.Uint64(numbers))
	} else {
		for len(numbers) > 0 {
			n, size := binary.Uvarint(numbers)
			if size <= 0 || n > math.MaxInt64 {
				return api.Entry{}, false
			}
			rest = append(rest, n)
			numbers = numbers[size:]
		}
	}
	for i, n := range rest {
		switch i {
		case 0:
			e.N = int64(n)
		case 1:
			e.Sum = int64(n)
		case 2:
			e.Least = int64(n)
		case 3:
			e.Greatest = int64(n)
		}
	}
	back, why := journal.Encode(e)
	if why != api.OK || !bytes.Equal(back, b) {
		return api.Entry{}, false
	}
	return e, true
}

func TestDecodeOfBytesByChance(t *testing.T) { // 27.2, 27.11
	r := rand.New(rand.NewSource(2))
	right := 0
	for range 200000 {
		b := recorded(someEntry(r))
		for range r.Intn(3) {
			switch i := r.Intn(len(b) + 1); r.Intn(4) {
			case 0:
				b = slices.Insert(b, i, byte(r.Intn(256)))
			case 1:
				b = slices.Delete(b, i, min(len(b), i+1))
			case 2:
				b[i%len(b)] = byte(r.Intn(256))
			case 3:
				b[i%len(b)] ^= 1 << r.Intn(8)
			}
			if len(b) == 0 {
				break
			}
		}
		want, is := read(b)
		got, why := journal.Decode(b)
		if (why == api.OK) != is || !sameEntry(got, want) || !is && why != api.ErrEntry {
			t.Fatalf("Decode(%x): %v, error %d, want %v, %v", b, got, why, want, is)
		}
		if is {
			right++
		}
	}
	if right < 20000 || right > 180000 {
		t.Error("too few or too many were right:", right)
	}
}

func TestEntriesAreNewMemory(t *testing.T) { // 27.7
	e := held("name", 1, 2, 3, 4)
	b, _ := journal.Encode(e)
	spoil(b, 0xee)
	b, _ = journal.Encode(e)
	got, _ := journal.Decode(b)
	spoil(b, 0xee)
	if e != held("name", 1, 2, 3, 4) || got != e {
		t.Error(e, got)
	}
}
