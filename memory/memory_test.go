package memory

import (
	"fmt"
	"math"
	"math/rand"
	"slices"
	"testing"

	"spindle/api"
)

const end = math.MaxUint64 // the last address

func short(what any) string {
	s := fmt.Sprintf("%v", what)
	return s[:min(len(s), 400)]
}

func region(first uint64, data ...byte) api.Region { return api.Region{First: first, Data: data} }

// counted gives a region of n bytes, from one number on.
func counted(first uint64, n, from int) api.Region {
	r := api.Region{First: first}
	for k := range n {
		r.Data = append(r.Data, byte(from+k))
	}
	return r
}

func spaceOf(t *testing.T, rs ...api.Region) *Space {
	t.Helper()
	s, e := New(rs)
	if s == nil || e != api.OK {
		t.Fatalf("P20.1: New(%s) = %v, %d, want a space, OK", short(rs), s != nil, e)
	}
	return s
}

// chapter gives the space of the chapter's examples.
func chapter(t *testing.T) *Space {
	t.Helper()
	return spaceOf(t, region(24, 9, 10), region(16, 1, 2, 3, 4, 5, 6, 7, 8))
}

func sameRegion(a, b api.Region) bool { return a.First == b.First && slices.Equal(a.Data, b.Data) }

func wantNoSpace(t *testing.T, rs ...api.Region) {
	t.Helper()
	if s, e := New(rs); s != nil || e != api.ErrMemoryRegion {
		t.Errorf("P20.1: New(%s) = %v, %d, want none, ErrMemoryRegion", short(rs), s != nil, e)
	}
}

func wantAdd(t *testing.T, s *Space, r api.Region, want api.Errno) {
	t.Helper()
	if e := s.Add(r); e != want {
		t.Errorf("P20.2: Add(%d, %d bytes) = %d, want %d", r.First, len(r.Data), e, want)
	}
}

func wantRemove(t *testing.T, s *Space, first uint64, want api.Errno) {
	t.Helper()
	if e := s.Remove(first); e != want {
		t.Errorf("P20.3: Remove(%d) = %d, want %d", first, e, want)
	}
}

func wantLoad(t *testing.T, s *Space, at uint64, width int, want uint64, wantE api.Errno) {
	t.Helper()
	if x, e := s.Load(at, width); x != want || e != wantE {
		t.Errorf("P20.4: Load(%d, %d) = %#x, %d, want %#x, %d", at, width, x, e, want, wantE)
	}
}

func wantStore(t *testing.T, s *Space, at uint64, width int, x uint64, want api.Errno) {
	t.Helper()
	if e := s.Store(at, width, x); e != want {
		t.Errorf("P20.5: Store(%d, %d, %#x) = %d, want %d", at, width, x, e, want)
	}
}

func wantBytes(t *testing.T, s *Space, at uint64, n int, want []byte, wantE api.Errno) {
	t.Helper()
	if b, e := s.Bytes(at, n); !slices.Equal(b, want) || e != wantE {
		t.Errorf("P20.6: Bytes(%d, %d) = %s, %d, want %s, %d", at, n, short(b), e, short(want), wantE)
	}
}

func wantPut(t *testing.T, s *Space, at uint64, b []byte, want api.Errno) {
	t.Helper()
	if e := s.Put(at, b); e != want {
		t.Errorf("P20.7: Put(%d, %s) = %d, want %d", at, short(b), e, want)
	}
}

func wantRegions(t *testing.T, s *Space, want ...api.Region) {
	t.Helper()
	if rs, e := s.Regions(); !slices.EqualFunc(rs, want, sameRegion) || e != api.OK {
		t.Errorf("P20.8: Regions() = %s, %d, want %s, OK", short(rs), e, short(want))
	}
}

func TestExamples(t *testing.T) {
	s := chapter(t)
	wantLoad(t, s, 16, 16, 0x0201, api.OK)
	wantLoad(t, s, 16, 64, 0x0807060504030201, api.OK)
	wantLoad(t, s, 23, 8, 8, api.OK)
	wantLoad(t, s, 23, 16, 0, api.FaultMemory)
	wantLoad(t, s, 25, 8, 10, api.OK)
	wantLoad(t, s, 26, 8, 0, api.FaultMemory)
	wantLoad(t, s, 16, 7, 0x0807060504030201, api.OK)
	wantLoad(t, s, 17, 7, 0, api.FaultMemory)
	wantStore(t, s, 22, 16, 0x11ff, api.OK)
	wantBytes(t, s, 20, 4, []byte{5, 6, 0xff, 0x11}, api.OK)
	wantBytes(t, s, 20, 5, nil, api.FaultMemory)
	wantBytes(t, s, 99, 0, nil, api.OK)
	wantBytes(t, s, 16, -1, nil, api.FaultMemory)
	wantPut(t, s, 24, []byte{7, 7, 7}, api.FaultMemory)
	wantLoad(t, s, 24, 16, 0x0a09, api.OK)
	wantPut(t, s, 24, []byte{7, 7}, api.OK)
	wantLoad(t, s, 24, 16, 0x0707, api.OK)
	wantPut(t, s, 99, nil, api.OK)
	wantAdd(t, s, region(26, 1), api.OK)
	wantAdd(t, s, region(25), api.OK)
	wantAdd(t, s, region(24), api.ErrMemoryRegion)
	wantAdd(t, s, region(15, 1, 2), api.ErrMemoryRegion)
	wantAdd(t, s, region(end, 3), api.OK)
	wantAdd(t, s, region(end, 3, 4), api.ErrMemoryRegion)
	wantRegions(t, s, region(16, 1, 2, 3, 4, 5, 6, 0xff, 0x11), region(24, 7, 7), region(25), region(26, 1), region(end, 3))
	wantRemove(t, s, 24, api.OK)
	wantLoad(t, s, 24, 8, 0, api.FaultMemory)
	wantRemove(t, s, 24, api.ErrMemoryRegion)
	wantNoSpace(t, region(5), region(5))
	wantNoSpace(t, region(end-1, 1, 2, 3))
	wantRegions(t, spaceOf(t))
}

// TestNilSpace: ErrNil goes ahead of every other error, and of what is done with nothing.
func TestNilSpace(t *testing.T) {
	var s *Space
	wantAdd(t, s, region(1, 2), api.ErrNil)
	wantAdd(t, s, region(end, 2, 3), api.ErrNil)
	wantAdd(t, s, region(0), api.ErrNil)
	wantRemove(t, s, 0, api.ErrNil)
	for _, width := range []int{8, 16, 32, 64, 7, 0, -8} {
		wantLoad(t, s, 0, width, 0, api.ErrNil)
		wantStore(t, s, 0, width, 5, api.ErrNil)
	}
	for _, n := range []int{math.MinInt, -1, 0, 1, math.MaxInt} {
		wantBytes(t, s, 0, n, nil, api.ErrNil)
	}
	wantPut(t, s, 0, nil, api.ErrNil)
	wantPut(t, s, 0, []byte{1}, api.ErrNil)
	if rs, e := s.Regions(); len(rs) != 0 || e != api.ErrNil {
		t.Errorf("P20.8: Regions() of none = %v, %d, want none, ErrNil", rs, e)
	}
}

// TestLastAddress: what ends at the last address may be, and one byte more may not; an access that goes over it is none at 0.
func TestLastAddress(t *testing.T) {
	for n := 1; n < 20; n++ {
		first := end - uint64(n) + 1
		wantNoSpace(t, counted(first, n+1, 1))
		wantNoSpace(t, counted(first, n+1, 1), region(0))
		s := spaceOf(t, counted(0, 9, 100), counted(first, n, 1))
		wantBytes(t, s, first, n, counted(first, n, 1).Data, api.OK)
		wantBytes(t, s, first, n+1, nil, api.FaultMemory)
		wantBytes(t, s, end, 1, []byte{byte(n)}, api.OK)
		wantBytes(t, s, end, 2, nil, api.FaultMemory)
		wantPut(t, s, end, []byte{1, 2}, api.FaultMemory)
		wantLoad(t, s, end, 8, uint64(n), api.OK)
		for _, width := range []int{16, 32, 64} {
			wantLoad(t, s, end, width, 0, api.FaultMemory)
			wantStore(t, s, end, width, 7, api.FaultMemory)
		}
		wantAdd(t, s, region(end), map[int]api.Errno{1: api.ErrMemoryRegion}[n])
	}
	wantRegions(t, spaceOf(t, region(end), region(0)), region(0), region(end))
	wantNoSpace(t, region(end), region(end))
	wantNoSpace(t, region(end), region(end, 1))
	wantNoSpace(t, region(end, 1), region(end))
}

// TestNoAccess: lengths that are none, or that reach round to the region again.
func TestNoAccess(t *testing.T) {
	s := spaceOf(t, counted(16, 8, 1), counted(0, 4, 1))
	for _, n := range []int{math.MinInt, math.MinInt + 1, -8, -1, 9, 1 << 32, 1<<32 + 1, math.MaxInt - 15, math.MaxInt} {
		wantBytes(t, s, 16, n, nil, api.FaultMemory)
		wantBytes(t, s, end, n, nil, api.FaultMemory)
		wantBytes(t, s, 12, n, nil, api.FaultMemory)
	}
	for _, at := range []uint64{0, 3, 4, 12, 15, 16, 23, 24, 1 << 63, end} {
		wantBytes(t, s, at, 0, nil, api.OK)
		wantPut(t, s, at, nil, api.OK)
		wantPut(t, s, at, []byte{}, api.OK)
		wantBytes(t, s, at, -1, nil, api.FaultMemory)
	}
	wantRegions(t, s, counted(0, 4, 1), counted(16, 8, 1))
}

// TestWidths: what is no width counts as 64, in loads and stores.
func TestWidths(t *testing.T) {
	sizes := map[int]int{8: 1, 16: 2, 32: 4, 64: 8}
	widths := []int{math.MinInt, math.MinInt32, -64, -32, -16, -8, 1 << 32, 1<<32 + 8, 1<<32 + 16, math.MaxInt}
	for width := range 140 {
		widths = append(widths, width)
	}
	for _, width := range widths {
		n, is := sizes[width]
		if !is {
			n = 8
		}
		want := uint64(0xf8f7f6f5f4f3f2f1) << (64 - 8*n) >> (64 - 8*n)
		for _, spare := range []int{0, 3} {
			r := counted(1000, n+spare, 0xf1)
			s := spaceOf(t, r)
			wantLoad(t, s, 1000, width, want, api.OK)
			wantLoad(t, s, 1000+uint64(spare)+1, width, 0, api.FaultMemory)
			wantStore(t, s, 1000+uint64(spare)+1, width, 5, api.FaultMemory)
			wantStore(t, s, 999, width, 5, api.FaultMemory)
			wantRegions(t, s, r)
			wantStore(t, s, 1000+uint64(spare), width, 0x0807060504030201, api.OK)
			copy(r.Data[spare:], counted(0, n, 1).Data)
			wantRegions(t, s, r)
		}
	}
}

// TestTouching: regions that touch are none in common, however an access lies over them.
func TestTouching(t *testing.T) {
	s := spaceOf(t, counted(512, 512, 0), counted(0, 512, 0), counted(1024, 512, 0))
	for _, border := range []uint64{512, 1024} {
		for size, width := range map[uint64]int{2: 16, 4: 32, 8: 64} {
			for by := uint64(1); by < size; by++ {
				wantLoad(t, s, border-by, width, 0, api.FaultMemory)
				wantStore(t, s, border-by, width, 9, api.FaultMemory)
				wantBytes(t, s, border-by, int(size), nil, api.FaultMemory)
				wantPut(t, s, border-by, make([]byte, size), api.FaultMemory)
			}
		}
	}
	wantBytes(t, s, 0, 513, nil, api.FaultMemory)
	wantBytes(t, s, 0, 1536, nil, api.FaultMemory)
	wantRegions(t, s, counted(0, 512, 0), counted(512, 512, 0), counted(1024, 512, 0))
}

// TestEmptyWithin: a region without bytes within another one hides none of its bytes, and goes on its own.
func TestEmptyWithin(t *testing.T) {
	whole := counted(100, 10, 1)
	s := spaceOf(t, region(105), whole, region(109), region(101), region(110), region(99))
	wantBytes(t, s, 100, 10, whole.Data, api.OK)
	for k := range 10 {
		wantLoad(t, s, 100+uint64(k), 8, uint64(1+k), api.OK)
	}
	wantBytes(t, s, 99, 1, nil, api.FaultMemory)
	wantBytes(t, s, 110, 1, nil, api.FaultMemory)
	wantRegions(t, s, region(99), whole, region(101), region(105), region(109), region(110))
	for _, first := range []uint64{105, 101, 109} {
		wantAdd(t, s, region(first), api.ErrMemoryRegion)
		wantAdd(t, s, region(first, 1), api.ErrMemoryRegion)
		wantRemove(t, s, first, api.OK)
		wantRemove(t, s, first, api.ErrMemoryRegion)
	}
	wantAdd(t, s, region(99, 1), api.ErrMemoryRegion)
	wantAdd(t, s, region(110, 1), api.ErrMemoryRegion)
	wantAdd(t, s, region(98, 1, 2), api.OK)
	wantRemove(t, s, 99, api.OK)
	wantRemove(t, s, 100, api.OK)
	wantRegions(t, s, region(98, 1, 2), region(110))
	// Over one without bytes a region with bytes may be laid, but none that begins there.
	wantAdd(t, s, region(110, 1), api.ErrMemoryRegion)
	wantAdd(t, s, counted(105, 10, 1), api.OK)
	wantRegions(t, s, region(98, 1, 2), counted(105, 10, 1), region(110))
}

// TestRefusedAdd: a region that is refused changes nothing, wherever the fault is.
func TestRefusedAdd(t *testing.T) {
	s := chapter(t)
	for _, r := range []api.Region{counted(0, 17, 0), counted(0, 200, 0), counted(15, 2, 0), counted(16, 1, 0), counted(16, 8, 0), counted(17, 1, 0), counted(23, 1, 0), counted(23, 4, 0), counted(25, 1, 0), counted(25, 9, 0), region(16), region(24), counted(end-1, 3, 0), counted(end, 28, 0)} {
		wantAdd(t, s, r, api.ErrMemoryRegion)
		wantRegions(t, s, counted(16, 8, 1), region(24, 9, 10))
	}
	wantRemove(t, s, 17, api.ErrMemoryRegion)
	wantRemove(t, s, 0, api.ErrMemoryRegion)
	wantRemove(t, s, end, api.ErrMemoryRegion)
	wantRegions(t, s, counted(16, 8, 1), region(24, 9, 10))
}

// TestAgain: where a region was another one may come, with bytes of its own.
func TestAgain(t *testing.T) {
	s := chapter(t)
	wantRemove(t, s, 16, api.OK)
	wantAdd(t, s, counted(14, 10, 50), api.OK)
	wantBytes(t, s, 16, 8, counted(0, 8, 52).Data, api.OK)
	wantRemove(t, s, 14, api.OK)
	wantRemove(t, s, 24, api.OK)
	wantRegions(t, s)
	wantAdd(t, s, counted(16, 8, 7), api.OK)
	wantRegions(t, s, counted(16, 8, 7))
}

// TestLoadsOfBytes: a Load is what the Loads of its bytes come to, and a Store changes no other byte.
func TestLoadsOfBytes(t *testing.T) {
	r := rand.New(rand.NewSource(20))
	s := spaceOf(t, counted(4096, 64, 3), counted(4096+64, 16, 9))
	for range 5000 {
		n := 1 << r.Intn(4)
		at, x := 4096+uint64(r.Intn(64-n+1)), r.Uint64()
		before, _ := s.Bytes(4096, 64)
		wantStore(t, s, at, 8*n, x, api.OK)
		var sum uint64
		for k := range n {
			one, _ := s.Load(at+uint64(k), 8)
			sum += one << (8 * k)
			before[at-4096+uint64(k)] = byte(x >> (8 * k))
		}
		wantLoad(t, s, at, 8*n, sum, api.OK)
		wantBytes(t, s, 4096, 64, before, api.OK)
		wantBytes(t, s, 4096+64, 16, counted(0, 16, 9).Data, api.OK)
		if t.Failed() {
			t.Fatal("P20.9")
		}
	}
}
