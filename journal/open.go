package journal

import "abacus/api"

// Open has the segments of bytes, and how many bytes of the last one were torn; beside an error, the number of the segment at fault.
func Open(size int, segments [][]byte) (*Journal, int, api.Errno) {
	j, why := New(size)
	if why != api.OK {
		return nil, 0, why
	}
	all, torn, at := splitAll(segments)
	if at < len(segments) {
		return nil, at, api.ErrTorn
	}
	if at := j.book.doAll(all); at < len(segments) {
		return nil, at, api.ErrEntry
	}
	j.segments = copiedSegments(segments)
	j.trim(torn)
	return j, torn, api.OK
}

// splitAll are the records of each segment, how many bytes of the last one are torn, and the first other one that is, or their count.
func splitAll(segments [][]byte) ([][][]byte, int, int) {
	var all [][][]byte
	torn := 0
	for i, b := range segments {
		records, n := split(b)
		torn = len(b) - n
		if torn > 0 && i < len(segments)-1 {
			return nil, 0, i
		}
		all = append(all, records)
	}
	return all, torn, len(segments)
}

// doAll does what the records of segments say; it answers the first segment of which that can't be done, or their count.
func (b *book) doAll(segments [][][]byte) int {
	for i, records := range segments {
		for _, record := range records {
			e, why := Decode(record)
			if why != api.OK || b.do(e) != api.OK {
				return i
			}
		}
	}
	return len(segments)
}

// trim leaves out so many bytes of the last segment, and all of it, if nothing is left.
func (j *Journal) trim(torn int) {
	last := len(j.segments) - 1
	if last < 0 {
		return
	}
	whole := len(j.segments[last]) - torn
	j.segments[last] = j.segments[last][:whole]
	if whole == 0 {
		j.segments = j.segments[:last]
	}
}
