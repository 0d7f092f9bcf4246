package journal

import (
	"iter"

	"seepage/api"
	"seepage/codec"
	"seepage/image"
)

// checksum is the checksum of a record.
type checksum [4]byte

// following returns a function that returns the checksum of the next record, from its
// frame; the first one follows the record with a checksum.
func following(last checksum) func(frame []byte) checksum {
	var summed []byte
	return func(frame []byte) checksum {
		summed = append(append(summed[:0], last[:]...), frame...)
		x := image.Sum(summed)
		last = checksum{byte(x >> 24), byte(x >> 16), byte(x >> 8), byte(x)}
		return last
	}
}

// records goes over the valid records of some bytes: the command of each one, and
// where its bytes end.
func records(b []byte) iter.Seq2[api.Cmd, int] {
	return func(yield func(c api.Cmd, end int) bool) {
		next := following(checksum{})
		for end := 0; end < len(b); {
			c, n, e := codec.Get(b[end:])
			if e != api.OK {
				return
			}
			frame := b[end : end+n]
			end += n
			var found checksum
			if copy(found[:], b[end:]) < len(found) || found != next(frame) {
				return
			}
			end += len(found)
			if !yield(c, end) {
				return
			}
		}
	}
}

// valid returns how many bytes the valid records of some bytes have.
func valid(b []byte) int {
	good := 0
	for _, end := range records(b) {
		good = end
	}
	return good
}
