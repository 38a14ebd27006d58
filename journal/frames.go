package journal

import (
	"slices"

	"abacus/api"
)

// Ahead of its record a frame has the record's length, and its check sum.
const (
	word = 4
	head = 2 * word
)

// polynomial is Castagnoli's, turned round: the lowest bit is of the highest power.
const polynomial = 0x82f63b78

// remainders are what each byte leaves, divided by the polynomial.
type remainders [256]uint32

// table is made anew by each call, as none may stand at package level; so it is made quickly: each power of two doubles the numbers that are known.
func table() *remainders {
	var t remainders
	left := uint32(1)
	for power := len(t) / 2; power > 0; power /= 2 {
		carry := left & 1
		left = left>>1 ^ carry*polynomial
		for i := 0; i < len(t); i += 2 * power {
			t[i+power] = t[i] ^ left
		}
	}
	return &t
}

// sum turns all bits at the beginning and at the end, so that noughts at either count.
func (t *remainders) sum(b []byte) uint32 {
	s := ^uint32(0)
	for _, c := range b {
		s = s>>8 ^ t[byte(s)^c]
	}
	return ^s
}

// Sum is a record's check sum (CRC-32C).
func Sum(b []byte) uint32 {
	return table().sum(b)
}

// Frame is a record with its head.
func Frame(b []byte) ([]byte, api.Errno) {
	if !isLength(len(b)) {
		return nil, api.ErrRange
	}
	return frameOf(b), api.OK
}

// isLength tells whether a record may have so many bytes.
func isLength(n int) bool {
	return n >= 1 && n <= api.MaxPayload
}

func frameOf(record []byte) []byte {
	f := make([]byte, head+len(record))
	putBytes(f[:word], uint64(len(record)))
	putBytes(f[word:head], uint64(Sum(record)))
	copy(f[head:], record)
	return f
}

// putBytes puts a number to bytes, the lowest first.
func putBytes(b []byte, n uint64) {
	for i := range b {
		b[i] = byte(n >> (8 * i))
	}
}

// numberOf is the number that bytes are, the lowest first.
func numberOf(b []byte) uint64 {
	var n uint64
	for i, c := range b {
		n |= uint64(c) << (8 * i)
	}
	return n
}

// Read is the records whose frames bytes begin with, and how many bytes these have.
func Read(b []byte) ([][]byte, int, api.Errno) {
	records, n := split(b)
	for i, record := range records {
		records[i] = slices.Clone(record)
	}
	if n < len(b) {
		return records, n, api.ErrTorn
	}
	return records, n, api.OK
}

// split is what Read answers; the records are pieces of what is handed in.
func split(b []byte) ([][]byte, int) {
	t := table()
	var records [][]byte
	n := 0
	for {
		record, is := t.first(b[n:])
		if !is {
			return records, n
		}
		records = append(records, record)
		n += head + len(record)
	}
}

// first is the record whose frame bytes begin with.
func (t *remainders) first(b []byte) ([]byte, bool) {
	if len(b) < head {
		return nil, false
	}
	rest := b[head:]
	n := numberOf(b[:word])
	if n > uint64(len(rest)) || !isLength(int(n)) {
		return nil, false
	}
	record := rest[:n]
	return record, uint64(t.sum(record)) == numberOf(b[word:head])
}
