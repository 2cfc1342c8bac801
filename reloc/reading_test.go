package reloc

import (
	"bytes"
	published "debug/elf"
	"encoding/binary"

	"spindle/api"
)

// mayPlain tells by the chapter's words whether a relocation may be.
func mayPlain(r api.Rel) bool {
	return 0 <= r.Slot && r.Slot <= 65535 && (r.Kind == 1 || r.Kind == 2) && 1 <= r.Symbol && r.Symbol <= 4294967295
}

// layPlain lays relocations by the library's struct of the published form, whether they may be or not.
func layPlain(rs ...api.Rel) []byte {
	var entries []published.Rel64
	for _, r := range rs {
		kind := uint32(r.Kind)
		if r.Kind == api.RelCall {
			kind = 10
		}
		entries = append(entries, published.Rel64{Off: 8 * uint64(r.Slot), Info: published.R_INFO(uint32(r.Symbol), kind)})
	}
	var b bytes.Buffer
	if err := binary.Write(&b, binary.LittleEndian, entries); err != nil {
		panic(err)
	}
	return b.Bytes()
}

func writePlain(rs []api.Rel) ([]byte, api.Errno) {
	for k, r := range rs {
		if !mayPlain(r) {
			return nil, api.ErrRelocForm
		}
		if k > 0 && r.Slot <= rs[k-1].Slot {
			return nil, api.ErrRelocOrder
		}
	}
	return layPlain(rs...), api.OK
}

func readPlain(b []byte) ([]api.Rel, int, api.Errno) {
	var rs []api.Rel
	for begin := 0; begin < len(b); begin += 16 {
		if len(b) < begin+16 {
			return nil, begin, api.ErrRelocForm
		}
		first := binary.LittleEndian.Uint64(b[begin:])
		kind := binary.LittleEndian.Uint32(b[begin+8:])
		symbol := binary.LittleEndian.Uint32(b[begin+12:])
		switch {
		case first%8 != 0 || first >= 524288:
			return nil, begin, api.ErrRelocForm
		case begin > 0 && first <= binary.LittleEndian.Uint64(b[begin-16:]):
			return nil, begin, api.ErrRelocOrder
		case kind != 1 && kind != 10:
			return nil, begin + 8, api.ErrRelocForm
		case symbol == 0:
			return nil, begin + 12, api.ErrRelocForm
		}
		rs = append(rs, api.Rel{Slot: int(first / 8), Kind: map[uint32]int{1: 1, 10: 2}[kind], Symbol: int(symbol)})
	}
	return rs, 0, api.OK
}
