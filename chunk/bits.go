package chunk

// writer has bits, the highest one of each byte first.
type writer struct {
	bytes []byte
	free  int // how many bits of the last byte nothing was put in yet: they are noughts
}

// put puts the n lowest bits of x behind, the highest one first.
func (w *writer) put(x uint64, n int) {
	for n > 0 {
		if w.free == 0 {
			w.bytes = append(w.bytes, 0)
			w.free = 8
		}
		now := min(n, w.free)
		n -= now
		w.free -= now
		w.bytes[len(w.bytes)-1] |= byte(x>>n&(1<<now-1)) << w.free
	}
}

// varint puts a number by seven bits a byte, the lowest ones first; each byte but the last one has its highest bit set.
func (w *writer) varint(x uint64) {
	for x >= 1<<7 {
		w.put(x|1<<7, 8)
		x >>= 7
	}
	w.put(x, 8)
}

// reader goes through bits.
type reader struct {
	bytes []byte
	at    int  // how many bits were taken
	over  bool // more was asked for than there is, or something that may not be was told: what is answered means nothing
}

// take takes n bits as a number, the highest one first.
func (r *reader) take(n int) uint64 {
	if n > 8*len(r.bytes)-r.at {
		r.over = true
		return 0
	}
	var x uint64
	for n > 0 {
		left := 8 - r.at%8
		now := min(n, left)
		x = x<<now | uint64(r.bytes[r.at/8]>>(left-now))&(1<<now-1)
		n -= now
		r.at += now
	}
	return x
}

// mostVarint is how many bytes a number takes at most.
const mostVarint = 10

// varint takes a number by seven bits a byte. Whether it is written as it should be isn't asked.
func (r *reader) varint() uint64 {
	var x uint64
	for i := range mostVarint {
		b := r.take(8)
		x |= b & (1<<7 - 1) << (7 * i)
		if b < 1<<7 {
			break
		}
	}
	return x
}
