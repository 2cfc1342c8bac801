package memory

import (
	"math"

	"spindle/api"
)

func isEmpty(r api.Region) bool {
	return len(r.Data) == 0
}

// mayBe tells whether no byte of the region is behind the last address.
func mayBe(r api.Region) bool {
	return isEmpty(r) || uint64(len(r.Data)-1) <= math.MaxUint64-r.First
}

// last gives the address of the last byte of a region that may be and has one.
func last(r api.Region) uint64 {
	return r.First + uint64(len(r.Data)-1)
}

// has tells whether a region that does not begin behind an address has a byte there.
func has(r api.Region, at uint64) bool {
	return at-r.First < uint64(len(r.Data))
}

// copyOf gives the region with bytes that are its own; of none it keeps no list, as that would keep the room behind it.
func copyOf(r api.Region) api.Region {
	return api.Region{First: r.First, Data: append([]byte(nil), r.Data...)}
}
