package memory

import (
	"math/rand"
	"slices"
	"testing"

	"spindle/api"
)

// windows are the addresses from which the tests below go some way up: the first, one amidst, and some so near to the last that the way goes over it.
func windows() []uint64 { return []uint64{0, 1<<32 - 3, end - 11, end - 6, end - 3} }

// compare holds all that a space tells from an address on, up to some beyond, against the plain one, and changes nothing.
func compare(t *testing.T, s *Space, p *plain, from uint64, far int) {
	t.Helper()
	wantRegions(t, s, p.rising()...)
	for by := range far {
		at := from + uint64(by)
		for _, width := range []int{8, 16, 32, 64, 9} {
			x, e := p.load(at, width)
			wantLoad(t, s, at, width, x, e)
		}
		for n := -1; n <= 9; n++ {
			b, e := p.bytes(at, n)
			wantBytes(t, s, at, n, b, e)
		}
	}
}

// allRegions gives the regions that begin at one of some addresses and have fewer bytes than so many.
func allRegions(from uint64, firsts, lengths int) []api.Region {
	var all []api.Region
	for by := range firsts {
		for n := range lengths {
			all = append(all, counted(from+uint64(by), n, 10*by+n+1))
		}
	}
	return all
}

// TestAllPairs: New of each two regions in each window, and each access to them; Add of the second one to the first; then Remove.
func TestAllPairs(t *testing.T) {
	t.Parallel()
	for _, from := range windows() {
		all := allRegions(from, 7, 6)
		for _, a := range all {
			for _, b := range all {
				pair := []api.Region{a, b}
				p, want := plainOf(pair)
				s, e := New(pair)
				if e != want || (s == nil) != (p == nil) {
					t.Fatalf("P20.1: New(%v) = %v, %d, want %d", pair, s != nil, e, want)
				}
				if s != nil && a.First < b.First {
					compare(t, s, p, from-2, 16)
				}
				first, e := New(pair[:1])
				if e != api.OK {
					continue
				}
				wantAdd(t, first, b, want)
				if want == api.OK {
					wantRegions(t, first, p.rising()...)
					wantRemove(t, first, a.First, api.OK)
					wantRegions(t, first, b)
				} else {
					wantRegions(t, first, a)
				}
			}
		}
	}
}

// TestAllTriples: New of each three regions, so that a clash may be of any two of them, in any order.
func TestAllTriples(t *testing.T) {
	t.Parallel()
	for _, from := range []uint64{0, end - 3} {
		all := allRegions(from, 4, 4)
		for _, a := range all {
			for _, b := range all {
				for _, c := range all {
					three := []api.Region{a, b, c}
					p, want := plainOf(three)
					s, e := New(three)
					if e != want || (s == nil) != (p == nil) {
						t.Fatalf("P20.1: New(%v) = %v, %d, want %d", three, s != nil, e, want)
					}
					if s != nil {
						wantRegions(t, s, p.rising()...)
					}
				}
			}
		}
	}
}

// walk is a space and the plain one beside it, of which the same is asked.
type walk struct {
	chance *rand.Rand
	space  *Space
	plain  *plain
	from   uint64
	far    int
}

func (w *walk) address() uint64 { return w.from + uint64(w.chance.Intn(w.far)) }

func (w *walk) some(n int) []byte {
	b := make([]byte, w.chance.Intn(n))
	w.chance.Read(b)
	return b
}

// step asks one thing of chance of both.
func (w *walk) step(t *testing.T) {
	t.Helper()
	at := w.address()
	width := []int{8, 16, 32, 64, 0, 24}[w.chance.Intn(6)]
	switch w.chance.Intn(7) {
	case 0, 1:
		r := api.Region{First: at, Data: w.some(12)}
		wantAdd(t, w.space, r, w.plain.add(r))
	case 2:
		wantRemove(t, w.space, at, w.plain.remove(at))
	case 3:
		x := w.chance.Uint64()
		wantStore(t, w.space, at, width, x, w.plain.store(at, width, x))
	case 4:
		b := w.some(10)
		wantPut(t, w.space, at, b, w.plain.put(at, b))
	case 5:
		x, e := w.plain.load(at, width)
		wantLoad(t, w.space, at, width, x, e)
	case 6:
		n := w.chance.Intn(14) - 1
		b, e := w.plain.bytes(at, n)
		wantBytes(t, w.space, at, n, b, e)
	}
}

// TestWalks: calls of chance, one behind the other, and all that the space tells behind each.
func TestWalks(t *testing.T) {
	t.Parallel()
	for seed := range 60 {
		for _, from := range windows() {
			w := walk{rand.New(rand.NewSource(int64(seed))), spaceOf(t), &plain{}, from, 40}
			for range 100 {
				w.step(t)
				wantRegions(t, w.space, w.plain.rising()...)
			}
			compare(t, w.space, w.plain, from-3, 46)
			if t.Failed() {
				t.Fatalf("P20.9: seed %d, from %d", seed, from)
			}
		}
	}
}

// TestLongWalks: so many regions that they stand in many rows, which come and go.
func TestLongWalks(t *testing.T) {
	t.Parallel()
	for seed := range 3 {
		w := walk{rand.New(rand.NewSource(int64(seed))), spaceOf(t), &plain{}, 1 << 40, 4000}
		for k := range 3000 {
			w.step(t)
			if k%500 == 499 {
				wantRegions(t, w.space, w.plain.rising()...)
				wantShelves(t, w.space)
			}
			if t.Failed() {
				t.Fatalf("P20.9: seed %d, step %d", seed, k)
			}
		}
		firsts := w.plain.rising()
		w.chance.Shuffle(len(firsts), func(i, j int) { firsts[i], firsts[j] = firsts[j], firsts[i] })
		for k, r := range firsts {
			wantRemove(t, w.space, r.First, w.plain.remove(r.First))
			if k%300 == 0 {
				wantRegions(t, w.space, w.plain.rising()...)
				wantShelves(t, w.space)
			}
		}
		wantRegions(t, w.space)
		wantShelves(t, w.space)
	}
}

// wantShelves: no row is empty or too long, and none keeps a region that is gone.
func wantShelves(t *testing.T, s *Space) {
	t.Helper()
	for _, kept := range []shelf{s.filled, s.empty} {
		for _, row := range kept.rows {
			if len(row) < 1 || len(row) > rowLength {
				t.Errorf("P20.2: a row of %d regions", len(row))
			}
			if k := slices.IndexFunc(row[len(row):cap(row)], func(r api.Region) bool { return r.Data != nil }); k >= 0 {
				t.Errorf("P20.3: the bytes of a region that is gone are kept, %d behind a row of %d", k, len(row))
			}
		}
		for _, row := range kept.rows[len(kept.rows):cap(kept.rows)] {
			if row != nil {
				t.Errorf("P20.3: a row that is gone is kept")
			}
		}
	}
}
