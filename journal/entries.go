package journal

import (
	"math"

	"abacus/api"
	"abacus/gauges"
	"abacus/labels"
)

// numbers are N, Sum, Least and Greatest of an entry, or of a metric.
type numbers [4]int64

func numbersOf(e api.Entry) numbers {
	return numbers{e.N, e.Sum, e.Least, e.Greatest}
}

// areHeld tells whether a histogram may have them.
func (n numbers) areHeld() bool {
	count, sum, least, greatest := n[0], n[1], n[2], n[3]
	return count >= 1 && count <= api.MaxHeld && sum >= 0 && sum <= api.MaxHeld && least >= 0 && least <= greatest && greatest <= api.MaxSeen
}

// areOne tells whether there is but the first one, and that is from 0 to a limit.
func (n numbers) areOne(most int64) bool {
	return n == numbers{n[0]} && n[0] >= 0 && n[0] <= most
}

// isUnused tells whether a float is 0 by its bits, as it is where a kind does not use it.
func isUnused(x float64) bool {
	return math.Float64bits(x) == 0
}

// isEntry tells whether an entry may be.
func isEntry(e api.Entry) bool {
	if !labels.Name(e.Name) || e.Kind != api.EntrySet && !isUnused(e.X) {
		return false
	}
	n := numbersOf(e)
	switch e.Kind {
	case api.EntryCount:
		return n.areOne(api.MaxHeld)
	case api.EntrySee:
		return n.areOne(api.MaxSeen)
	case api.EntryHeld:
		return n.areHeld()
	case api.EntrySet, api.EntryDrop:
		return n == numbers{}
	}
	return false
}

// Encode is an entry as a record.
func Encode(e api.Entry) ([]byte, api.Errno) {
	if !isEntry(e) {
		return nil, api.ErrEntry
	}
	return recordOf(e), api.OK
}

// floatLength is how many bytes a float has.
const floatLength = 8

func recordOf(e api.Entry) []byte {
	b := []byte{byte(e.Kind), byte(len(e.Name))}
	b = append(b, e.Name...)
	switch e.Kind {
	case api.EntryCount, api.EntrySee:
		b = appendNumber(b, e.N)
	case api.EntryHeld:
		for _, n := range numbersOf(e) {
			b = appendNumber(b, n)
		}
	case api.EntrySet:
		var x [floatLength]byte
		putBytes(x[:], gauges.Bits(e.X))
		b = append(b, x[:]...)
	}
	return b
}

// A byte of a number has seven of its bits; more says that another byte comes.
const more = 1 << 7

func appendNumber(b []byte, n int64) []byte {
	for n >= more {
		b = append(b, byte(n%more)|more)
		n /= more
	}
	return append(b, byte(n))
}

// Decode reads an entry's record.
func Decode(b []byte) (api.Entry, api.Errno) {
	e, is := entryOf(b)
	if !is || !isEntry(e) {
		return api.Entry{}, api.ErrEntry
	}
	return e, api.OK
}

// entryOf is the entry that a record says, be it right or not.
func entryOf(b []byte) (api.Entry, bool) {
	const ahead = 2 // bytes ahead of the name
	if len(b) < ahead || len(b) < ahead+int(b[1]) {
		return api.Entry{}, false
	}
	end := ahead + int(b[1])
	e := api.Entry{Kind: api.EntryKind(b[0]), Name: string(b[ahead:end])}
	rest := b[end:]
	is := false
	switch e.Kind {
	case api.EntryCount, api.EntrySee:
		is = readNumbers(rest, &e.N)
	case api.EntryHeld:
		is = readNumbers(rest, &e.N, &e.Sum, &e.Least, &e.Greatest)
	case api.EntrySet:
		is = readFloat(rest, &e.X)
	default:
		is = len(rest) == 0
	}
	return e, is
}

// readNumbers reads so many numbers, behind which nothing stands.
func readNumbers(b []byte, l ...*int64) bool {
	for _, n := range l {
		var is bool
		if *n, b, is = cutNumber(b); !is {
			return false
		}
	}
	return len(b) == 0
}

// cutNumber reads a number that has no needless bytes, and no more than may be held need; it answers what stands behind it, too.
func cutNumber(b []byte) (int64, []byte, bool) {
	const most = 9
	var n int64
	for i, c := range b[:min(len(b), most)] {
		n |= int64(c%more) << (7 * i)
		if c < more {
			return n, b[i+1:], c > 0 || i == 0
		}
	}
	return 0, nil, false
}

// readFloat reads the bits of a float; what is no number has but one pattern.
func readFloat(b []byte, x *float64) bool {
	if len(b) != floatLength {
		return false
	}
	bits := numberOf(b)
	*x = math.Float64frombits(bits)
	return gauges.Bits(*x) == bits
}
