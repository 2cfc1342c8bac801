package memory

import (
	"math"
	"math/rand"
	"slices"
	"testing"

	"spindle/api"
)

const many = 300000

// orders gives numbers from 0 on in the orders in which regions may come and go.
func orders(n int) map[string][]int {
	rising, falling, inward := make([]int, n), make([]int, n), make([]int, n)
	for k := range n {
		rising[k], falling[k] = k, n-1-k
		inward[k] = k / 2
		if k%2 == 1 {
			inward[k] = n - 1 - k/2
		}
	}
	outward := slices.Clone(inward)
	slices.Reverse(outward)
	return map[string][]int{"rising": rising, "falling": falling, "inward": inward, "outward": outward, "of chance": rand.New(rand.NewSource(5)).Perm(n)}
}

// wide gives the k-th of many regions, of which each third one has no byte.
func wide(k int) api.Region {
	return counted(16*uint64(k), k%3*6, k)
}

// wantFewRows: of regions that came and did not go the rows are at least half full, so that what comes moves few of them.
func wantFewRows(t *testing.T, kept shelf) {
	t.Helper()
	if n := len(kept.all()); len(kept.rows) > n/(rowLength/2)+1 {
		t.Errorf("P20.2: %d regions stand in %d rows", n, len(kept.rows))
	}
}

// TestManyRegions: hundreds of thousands that come, are looked at and go, in all orders. What went through all of them for each would take many minutes.
func TestManyRegions(t *testing.T) {
	for what, order := range orders(many) {
		t.Run(what, func(t *testing.T) {
			t.Parallel()
			s := spaceOf(t)
			for _, k := range order {
				if e := s.Add(wide(k)); e != api.OK {
					t.Fatalf("P20.2: Add of region %d = %d", k, e)
				}
			}
			wantShelves(t, s)
			wantFewRows(t, s.filled)
			wantFewRows(t, s.empty)
			for _, k := range order {
				r := wide(k)
				wantBytes(t, s, r.First, len(r.Data), r.Data, api.OK)
				wantBytes(t, s, r.First, len(r.Data)+1, nil, api.FaultMemory)
			}
			rs, _ := s.Regions()
			for k, r := range rs {
				if !sameRegion(r, wide(k)) {
					t.Fatalf("P20.8: region %d is %v", k, r)
				}
			}
			if again, e := New(rs); again == nil || e != api.OK || len(rs) != many {
				t.Errorf("P20.1: New of %d regions = %v, %d", len(rs), again != nil, e)
			}
			for _, k := range order {
				if e := s.Remove(wide(k).First); e != api.OK {
					t.Fatalf("P20.3: Remove of region %d = %d", k, e)
				}
			}
			wantRegions(t, s)
		})
	}
}

// TestManyClash: of many regions the last clashes with one of them.
func TestManyClash(t *testing.T) {
	t.Parallel()
	var rs []api.Region
	for k := range many {
		rs = append(rs, wide(k))
	}
	for _, k := range []int{0, 1, 2, many/2 + 2, many - 1} {
		if s, e := New(append(rs, region(wide(k).First))); s != nil || e != api.ErrMemoryRegion {
			t.Errorf("P20.1: New of many and one at the place of the region %d = %v, %d", k, s != nil, e)
		}
	}
	s := spaceOf(t, rs...)
	for range 100000 {
		wantAdd(t, s, region(16*4+5, 1), api.ErrMemoryRegion)
		wantRemove(t, s, 16*4+5, api.ErrMemoryRegion)
	}
	wantAdd(t, s, api.Region{First: 12, Data: make([]byte, 16*many)}, api.ErrMemoryRegion)
}

// machine gives a space as a run has it: a context, frames and as many tables as there may be.
func machine(t *testing.T) *Space {
	t.Helper()
	s := spaceOf(t, api.Region{First: api.ContextAt, Data: make([]byte, api.MaxContext)}, api.Region{First: api.StackTop - 512, Data: make([]byte, 512)})
	for k := range uint64(api.MaxTables) {
		wantAdd(t, s, api.Region{First: api.TableAt + k*api.TableStep, Data: make([]byte, api.MaxRoom/api.MaxTables)}, api.OK)
	}
	return s
}

// TestManySteps: a million loads and stores over all of a run's regions, and a million frames that come and go.
func TestManySteps(t *testing.T) {
	t.Parallel()
	s := machine(t)
	for k := range uint64(1 << 20) {
		at := api.TableAt + k%1024*api.TableStep + k/1024*64
		if e := s.Store(at, 64, k*k); e != api.OK {
			t.Fatalf("P20.5: Store(%d) = %d", at, e)
		}
	}
	for k := range uint64(1 << 20) {
		at := api.TableAt + k%1024*api.TableStep + k/1024*64
		if x, e := s.Load(at, 64); x != k*k || e != api.OK {
			t.Fatalf("P20.4: Load(%d) = %d, %d, want %d", at, x, e, k*k)
		}
	}
	frame := api.Region{First: api.StackTop - 1024, Data: make([]byte, 512)}
	for range 1 << 20 {
		if e, f := s.Add(frame), s.Remove(frame.First); e != api.OK || f != api.OK {
			t.Fatalf("P20.2, P20.3: Add and Remove of a frame = %d, %d", e, f)
		}
	}
	wantShelves(t, s)
	wantLoad(t, s, api.StackTop-516, 64, 0, api.FaultMemory)
	wantAdd(t, s, frame, api.OK)
	wantLoad(t, s, api.StackTop-516, 64, 0, api.FaultMemory)
	wantLoad(t, s, api.StackTop-520, 64, 0, api.OK)
}

// TestLongRegion: an access to a long region costs no more than its own bytes.
func TestLongRegion(t *testing.T) {
	t.Parallel()
	const n = 1 << 28
	s := spaceOf(t, api.Region{First: end - n + 1, Data: make([]byte, n)}, region(0, 1))
	for k := range uint64(1 << 20) {
		at := end - n + 1 + k*256
		if e := s.Store(at, 32, k); e != api.OK {
			t.Fatalf("P20.5: Store(%d) = %d", at, e)
		}
		if b, e := s.Bytes(at, 3); !slices.Equal(b, []byte{byte(k), byte(k >> 8), byte(k >> 16)}) || e != api.OK {
			t.Fatalf("P20.6: Bytes(%d, 3) = %v, %d", at, b, e)
		}
		if b, e := s.Bytes(at, math.MaxInt); b != nil || e != api.FaultMemory {
			t.Fatalf("P20.6: Bytes(%d, MaxInt) = %d bytes, %d", at, len(b), e)
		}
	}
	b, e := s.Bytes(end-n+1, n)
	if len(b) != n || e != api.OK || b[n-256] != 0xff || b[n-1] != 0 {
		t.Errorf("P20.6: Bytes of all = %d bytes, %d", len(b), e)
	}
	wantAdd(t, s, api.Region{First: end - n + 2}, api.OK)
	wantAdd(t, s, api.Region{First: end - n, Data: make([]byte, 2)}, api.ErrMemoryRegion)
	wantPut(t, s, end-n+2, b, api.FaultMemory)
	wantPut(t, s, end-n+1, b, api.OK)
	wantBytes(t, s, end-n+2, n, nil, api.FaultMemory)
}
