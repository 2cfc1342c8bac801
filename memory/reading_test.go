package memory

import (
	"math/big"
	"math/bits"
	"slices"

	"spindle/api"
)

// plain is a space by the chapter's words alone: its regions in no order, each asked byte by byte and address by address.
type plain struct {
	regions []api.Region
}

// place is an address, or what would be one if addresses went on behind the last.
type place struct {
	over uint64
	at   uint64
}

func placeOf(first uint64, by int) place {
	at, over := bits.Add64(first, uint64(by), 0)
	return place{over, at}
}

func (p place) isAddress() bool { return p.over == 0 }

func plainMay(r api.Region) bool {
	return len(r.Data) == 0 || placeOf(r.First, len(r.Data)-1).isAddress()
}

// byteAt gives the place in a region of its byte at an address, or -1.
func byteAt(r api.Region, p place) int {
	for k := range r.Data {
		if placeOf(r.First, k) == p {
			return k
		}
	}
	return -1
}

func plainClash(a, b api.Region) bool {
	if a.First == b.First {
		return true
	}
	for k := range a.Data {
		if byteAt(b, placeOf(a.First, k)) >= 0 {
			return true
		}
	}
	return false
}

func (p *plain) add(r api.Region) api.Errno {
	if !plainMay(r) || slices.ContainsFunc(p.regions, func(other api.Region) bool { return plainClash(r, other) }) {
		return api.ErrMemoryRegion
	}
	p.regions = append(p.regions, api.Region{First: r.First, Data: slices.Clone(r.Data)})
	return api.OK
}

func plainOf(rs []api.Region) (*plain, api.Errno) {
	for k, r := range rs {
		if !plainMay(r) || slices.ContainsFunc(rs[:k], func(other api.Region) bool { return plainClash(r, other) }) {
			return nil, api.ErrMemoryRegion
		}
	}
	p := &plain{}
	for _, r := range rs {
		p.add(r)
	}
	return p, api.OK
}

func (p *plain) remove(first uint64) api.Errno {
	for k, r := range p.regions {
		if r.First == first {
			p.regions = slices.Delete(p.regions, k, k+1)
			return api.OK
		}
	}
	return api.ErrMemoryRegion
}

// wholly gives where each of the n bytes at an address lies, if one region has them all.
func (p *plain) wholly(at uint64, n int) ([]*byte, bool) {
	for _, r := range p.regions {
		var places []*byte
		for k := range n {
			p := placeOf(at, k)
			if found := byteAt(r, p); p.isAddress() && found >= 0 {
				places = append(places, &r.Data[found])
			}
		}
		if len(places) == n {
			return places, true
		}
	}
	return nil, false
}

func (p *plain) bytes(at uint64, n int) ([]byte, api.Errno) {
	if n < 0 {
		return nil, api.FaultMemory
	}
	if n == 0 {
		return nil, api.OK
	}
	places, is := p.wholly(at, n)
	if !is {
		return nil, api.FaultMemory
	}
	var b []byte
	for _, place := range places {
		b = append(b, *place)
	}
	return b, api.OK
}

func (p *plain) put(at uint64, b []byte) api.Errno {
	if len(b) == 0 {
		return api.OK
	}
	places, is := p.wholly(at, len(b))
	if !is {
		return api.FaultMemory
	}
	for k, place := range places {
		*place = b[k]
	}
	return api.OK
}

func plainSize(width int) int {
	if width == 8 || width == 16 || width == 32 {
		return width / 8
	}
	return 8
}

func (p *plain) load(at uint64, width int) (uint64, api.Errno) {
	b, e := p.bytes(at, plainSize(width))
	x := new(big.Int)
	for k, one := range b {
		x.Add(x, new(big.Int).Lsh(big.NewInt(int64(one)), uint(8*k)))
	}
	return x.Uint64(), e
}

func (p *plain) store(at uint64, width int, x uint64) api.Errno {
	var b []byte
	for range plainSize(width) {
		b = append(b, byte(x%256))
		x /= 256
	}
	return p.put(at, b)
}

// rising gives the regions by the rule that the one with the least First that is left is next.
func (p *plain) rising() []api.Region {
	left := slices.Clone(p.regions)
	var all []api.Region
	for len(left) > 0 {
		least := 0
		for k := range left {
			if left[k].First < left[least].First {
				least = k
			}
		}
		all = append(all, left[least])
		left = slices.Delete(left, least, least+1)
	}
	return all
}
