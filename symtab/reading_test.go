package symtab

import (
	"bytes"
	published "debug/elf"
	"encoding/binary"
	"slices"

	"spindle/api"
)

// plainSort tells a symbol's sort by the chapter's table; 0, where the symbol may not be.
func plainSort(s api.Symbol) int {
	if s.Name < 0 || s.Name > 4294967295 {
		return 0
	}
	function := s.Section == 1 && s.Value >= 0 && s.Value%8 == 0 && s.Size > 0 && s.Size%8 == 0
	switch [2]int{s.Binding, s.Kind} {
	case [2]int{0, 2}:
		if function {
			return 1
		}
	case [2]int{0, 1}:
		if s.Section == 2 && s.Value >= 0 && s.Value%16 == 0 && s.Size == 16 {
			return 2
		}
	case [2]int{1, 2}:
		if function {
			return 3
		}
	case [2]int{1, 0}:
		if s.Section == 0 && s.Value == 0 && s.Size == 0 {
			return 4
		}
	}
	return 0
}

// plainOrder tells whether symbols that may be are in order, over the whole list each time.
func plainOrder(ss []api.Symbol) bool {
	var sorts []int
	values := map[int][]int{}
	for _, s := range ss {
		n := plainSort(s)
		sorts = append(sorts, n)
		values[n] = append(values[n], s.Value)
	}
	for k, value := range values[2] {
		if value != 16*k {
			return false
		}
	}
	return slices.IsSorted(sorts) && rises(values[1]) && rises(values[3])
}

func rises(values []int) bool {
	for k := 1; k < len(values); k++ {
		if values[k] <= values[k-1] {
			return false
		}
	}
	return true
}

// layPlain lays symbols by the library's struct of the published form, whether they may be or not.
func layPlain(ss ...api.Symbol) []byte {
	entries := []published.Sym64{{}}
	for _, s := range ss {
		entries = append(entries, published.Sym64{
			Name: uint32(s.Name), Info: byte(s.Binding<<4 + s.Kind), Shndx: uint16(s.Section), Value: uint64(s.Value), Size: uint64(s.Size),
		})
	}
	var b bytes.Buffer
	if err := binary.Write(&b, binary.LittleEndian, entries); err != nil {
		panic(err)
	}
	return b.Bytes()
}

func writePlain(ss []api.Symbol) ([]byte, api.Errno) {
	for k, s := range ss {
		if plainSort(s) == 0 {
			return nil, api.ErrSymtabForm
		}
		if !plainOrder(ss[:k+1]) {
			return nil, api.ErrSymtabOrder
		}
	}
	return layPlain(ss...), api.OK
}

func readPlain(b []byte) ([]api.Symbol, int, api.Errno) {
	var ss []api.Symbol
	for k := 0; k == 0 || 24*k < len(b); k++ {
		if len(b) < 24*k+24 {
			return nil, len(b), api.ErrSymtabForm
		}
		part := b[24*k : 24*k+24]
		if k == 0 {
			if at := slices.IndexFunc(part, func(n byte) bool { return n != 0 }); at >= 0 {
				return nil, at, api.ErrSymtabForm
			}
			continue
		}
		s, at := entryPlain(part)
		if at > 0 {
			return nil, 24*k + at, api.ErrSymtabForm
		}
		ss = append(ss, s)
		if !plainOrder(ss) {
			return nil, 24 * k, api.ErrSymtabOrder
		}
	}
	return ss, 0, api.OK
}

// entryPlain gives an entry's symbol, or the place in it of the first field that is wrong.
func entryPlain(part []byte) (api.Symbol, int) {
	var e published.Sym64
	if err := binary.Read(bytes.NewReader(part), binary.LittleEndian, &e); err != nil {
		panic(err)
	}
	var sortsByByte = map[byte]int{0x02: 1, 0x01: 2, 0x12: 3, 0x10: 4}
	n := sortsByByte[e.Info]
	function := n == 1 || n == 3
	least, step := uint64(0), uint64(1)
	if function {
		least, step = 8, 8
	}
	switch {
	case n == 0:
		return api.Symbol{}, 4
	case e.Other != 0:
		return api.Symbol{}, 5
	case e.Shndx != [5]uint16{1: 1, 2: 2, 3: 1, 4: 0}[n]:
		return api.Symbol{}, 6
	case e.Value >= 1<<63 || function && e.Value%8 != 0 || n == 2 && e.Value%16 != 0 || n == 4 && e.Value != 0:
		return api.Symbol{}, 8
	case e.Size >= 1<<63 || e.Size < least || e.Size%step != 0 || n == 2 && e.Size != 16 || n == 4 && e.Size != 0:
		return api.Symbol{}, 16
	}
	return api.Symbol{
		Name: int(e.Name), Binding: int(published.ST_BIND(e.Info)), Kind: int(published.ST_TYPE(e.Info)),
		Section: int(e.Shndx), Value: int(e.Value), Size: int(e.Size),
	}, 0
}
