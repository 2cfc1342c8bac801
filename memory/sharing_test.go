package memory

import (
	"slices"
	"strconv"
	"testing"

	"spindle/api"
)

// roomy gives the same bytes, with spare room behind them that is filled.
func roomy(b ...byte) []byte {
	return append(slices.Clone(b), 0xee, 0xee, 0xee, 0xee)[:len(b)]
}

// spoil writes over bytes and their spare room.
func spoil(b []byte) {
	for k := range b[:cap(b)] {
		b[:cap(b)][k] = 0xdd
	}
}

func wantLeft(t *testing.T, what string, b []byte, want ...byte) {
	t.Helper()
	if !slices.Equal(b, want) || !slices.Equal(b[len(b):len(b)+4], []byte{0xee, 0xee, 0xee, 0xee}) {
		t.Errorf("R4: %s: %v with its spare room %v, want %v", what, b, b[len(b):len(b)+4], want)
	}
}

// TestListsAreLeft: what New and Add are handed is neither changed nor kept.
func TestListsAreLeft(t *testing.T) {
	a, b, c := roomy(1, 2, 3), roomy(4, 5), roomy()
	room := []api.Region{{First: 20, Data: a}, {First: 10, Data: b}, {First: 99}, {First: 98}}
	rs := room[:2]
	s := spaceOf(t, rs...)
	wantAdd(t, s, api.Region{First: 15, Data: c}, api.OK)
	wantPut(t, s, 20, []byte{7, 7, 7}, api.OK)
	wantStore(t, s, 10, 16, 0x0909, api.OK)
	wantLeft(t, "a list of New", a, 1, 2, 3)
	wantLeft(t, "a list of New", b, 4, 5)
	wantLeft(t, "a list of Add", c)
	if rs[0].First != 20 || rs[1].First != 10 || room[2].First != 99 || room[3].First != 98 {
		t.Errorf("R4: the regions that New was handed are %v now", room)
	}
	spoil(a)
	spoil(b)
	spoil(c)
	clear(room)
	wantRegions(t, s, region(10, 9, 9), region(15), region(20, 7, 7, 7))
}

// TestBytesAreLeft: what Put is handed is neither changed nor kept, nor is what it is refused.
func TestBytesAreLeft(t *testing.T) {
	s := chapter(t)
	b := roomy(5, 6)
	wantPut(t, s, 24, b, api.OK)
	wantPut(t, s, 25, b, api.FaultMemory)
	wantStore(t, s, 24, 8, 1, api.OK)
	wantLeft(t, "the bytes of Put", b, 5, 6)
	spoil(b)
	wantRegions(t, s, counted(16, 8, 1), region(24, 1, 6))
	// Bytes of the space itself, laid into it over themselves.
	whole, _ := s.Bytes(16, 8)
	wantPut(t, s, 17, whole[:7], api.OK)
	wantRegions(t, s, region(16, 1, 1, 2, 3, 4, 5, 6, 7), region(24, 1, 6))
}

// TestBytesAreNew: whoever writes into what Bytes answered changes neither the space nor another answer.
func TestBytesAreNew(t *testing.T) {
	s := chapter(t)
	first, _ := s.Bytes(16, 4)
	second, _ := s.Bytes(16, 4)
	spoil(first)
	_ = append(second[:2], 0xcc, 0xcc, 0xcc)
	third, _ := s.Bytes(16, 4)
	if !slices.Equal(second, []byte{1, 2, 0xcc, 0xcc}) || !slices.Equal(third, []byte{1, 2, 3, 4}) {
		t.Errorf("R4: Bytes = %v and %v", second, third)
	}
	wantStore(t, s, 16, 64, 0, api.OK)
	if !slices.Equal(third, []byte{1, 2, 3, 4}) {
		t.Errorf("R4: Bytes = %v behind a Store", third)
	}
	_ = append(third, 0xcc, 0xcc, 0xcc)
	wantRegions(t, s, api.Region{First: 16, Data: make([]byte, 8)}, region(24, 9, 10))
}

// TestRegionsAreNew: whoever writes into what Regions answered changes neither the space nor another list.
func TestRegionsAreNew(t *testing.T) {
	s := spaceOf(t, counted(16, 8, 1), region(24, 9, 10), region(18), region(30, 3))
	want := []api.Region{counted(16, 8, 1), region(18), region(24, 9, 10), region(30, 3)}
	first, _ := s.Regions()
	second, _ := s.Regions()
	for k := range first {
		spoil(first[k].Data)
		_ = append(first[k].Data, 0xcc, 0xcc)
		for other := range first[k+1:] {
			if !sameRegion(first[k+1+other], want[k+1+other]) {
				t.Errorf("R4: two lists of Regions share memory: %v", first)
			}
		}
	}
	clear(first[:cap(first)])
	wantRegions(t, s, want...)
	wantStore(t, s, 16, 64, 0, api.OK)
	wantRemove(t, s, 24, api.OK)
	if !slices.EqualFunc(second, want, sameRegion) {
		t.Errorf("R4: Regions = %v behind calls", second)
	}
}

// TestTwoSpaces: two spaces of one list have nothing to do with each other.
func TestTwoSpaces(t *testing.T) {
	rs := []api.Region{counted(16, 8, 1), region(24, 9, 10)}
	a, b := spaceOf(t, rs...), spaceOf(t, rs...)
	wantStore(t, a, 16, 64, 0, api.OK)
	wantRemove(t, a, 24, api.OK)
	wantAdd(t, a, region(40, 1), api.OK)
	wantRegions(t, b, rs...)
	c := spaceOf(t)
	wantRegions(t, c)
	wantAdd(t, c, rs[0], api.OK)
	wantAdd(t, b, region(41, 1), api.OK)
	wantPut(t, b, 16, []byte{0xff}, api.OK)
	wantRegions(t, a, api.Region{First: 16, Data: make([]byte, 8)}, region(40, 1))
	wantRegions(t, c, counted(16, 8, 1))
	// A space of another one's regions is one of its own.
	told, _ := b.Regions()
	d := spaceOf(t, told...)
	wantStore(t, b, 16, 32, 0, api.OK)
	wantRegions(t, d, region(16, 0xff, 2, 3, 4, 5, 6, 7, 8), region(24, 9, 10), region(41, 1))
}

// TestNothing: nil and empty lists are one.
func TestNothing(t *testing.T) {
	wantRegions(t, spaceOf(t, []api.Region{}...))
	for _, data := range [][]byte{nil, {}, make([]byte, 0, 9)} {
		s := spaceOf(t, api.Region{First: 5, Data: data})
		wantRegions(t, s, region(5))
		wantLoad(t, s, 5, 8, 0, api.FaultMemory)
		wantAdd(t, s, api.Region{First: 5, Data: data}, api.ErrMemoryRegion)
		wantAdd(t, s, api.Region{First: end, Data: data}, api.OK)
		wantPut(t, s, 77, data, api.OK)
		wantRemove(t, s, 5, api.OK)
		wantRegions(t, s, region(end))
	}
	if s, e := New(nil); s == nil || e != api.OK {
		t.Errorf("P20.1: New(nil) = %v, %d", s != nil, e)
	}
}

// TestOrders: the order of the regions turns nothing.
func TestOrders(t *testing.T) {
	rs := []api.Region{counted(16, 8, 1), region(24, 9, 10), region(18), region(0, 3), region(end, 4)}
	want := []api.Region{rs[3], rs[0], rs[2], rs[1], rs[4]}
	var permute func(k int)
	permute = func(k int) {
		if k == len(rs) {
			wantRegions(t, spaceOf(t, rs...), want...)
			wantNoSpace(t, append(slices.Clone(rs), region(23, 1))...)
			wantNoSpace(t, append([]api.Region{region(18)}, rs...)...)
		}
		for j := k; j < len(rs); j++ {
			rs[k], rs[j] = rs[j], rs[k]
			permute(k + 1)
			rs[k], rs[j] = rs[j], rs[k]
		}
	}
	permute(0)
}

// TestSideBySide: one space is looked at by many at one time, each of which has one of its own too.
func TestSideBySide(t *testing.T) {
	s := chapter(t)
	for n := range 8 {
		t.Run(strconv.Itoa(n), func(t *testing.T) {
			t.Parallel()
			own := chapter(t)
			for k := range 200 {
				wantLoad(t, s, 16, 32, 0x04030201, api.OK)
				wantBytes(t, s, 24, 2, []byte{9, 10}, api.OK)
				wantRegions(t, s, counted(16, 8, 1), region(24, 9, 10))
				wantStore(t, own, 16, 64, uint64(k+n), api.OK)
				wantLoad(t, own, 16, 64, uint64(k+n), api.OK)
			}
		})
	}
}
