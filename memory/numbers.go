package memory

import (
	"math/bits"

	"spindle/api"
)

// unsigned: one kind of integer for each of the four widths.
type unsigned interface {
	uint8 | uint16 | uint32 | uint64
}

// size gives how many bytes a number of the kind has.
func size[T unsigned]() int {
	return bits.Len64(uint64(^T(0))) / 8
}

// load gives the number of that kind at an address.
func load[T unsigned](s *Space, at uint64) (uint64, api.Errno) {
	place, e := s.access(at, size[T]())
	return uint64(number[T](place)), e
}

// store lays a number of that kind at an address.
func store[T unsigned](s *Space, at uint64, x T) api.Errno {
	place, e := s.access(at, size[T]())
	lay(place, x)
	return e
}

// number gives the number of bytes, the lowest one first; 0, where there are none.
func number[T unsigned](b []byte) T {
	var x T
	for k, part := range b {
		x |= T(part) << (8 * k)
	}
	return x
}

// lay writes a number over bytes, the lowest one first.
func lay[T unsigned](b []byte, x T) {
	for k := range b {
		b[k] = byte(x >> (8 * k))
	}
}
