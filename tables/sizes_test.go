package tables

import (
	"math/rand"
	"slices"
	"testing"

	"spindle/api"
)

// wideKey gives the k-th of many keys.
func wideKey(k int) []byte {
	return append(plainKey(k*7919), plainKey(k)...)
}

// wideValue gives the value that the k-th key gets.
func wideValue(k int) []byte {
	return plainKey(k * 31)[:3]
}

// orders gives numbers from 0 on in the orders in which entries may come and go.
func orders(n int) map[string][]int {
	rising, falling, inward := make([]int, n), make([]int, n), make([]int, n)
	for k := range n {
		rising[k], falling[k] = k, n-1-k
		inward[k] = k / 2
		if k%2 == 1 {
			inward[k] = n - 1 - k/2
		}
	}
	return map[string][]int{"rising": rising, "falling": falling, "inward": inward, "of chance": rand.New(rand.NewSource(5)).Perm(n)}
}

func mustUpdate(t *testing.T, table *Table, k int, flags uint64, want int) {
	t.Helper()
	if x, e := table.Update(wideKey(k), wideValue(k), flags); x != want || e != api.OK {
		t.Fatalf("P21.4: Update of the key %d with %d = %d, %d, want %d", k, flags, x, e, want)
	}
}

func mustDelete(t *testing.T, table *Table, k, want int) {
	t.Helper()
	if x, e := table.Delete(wideKey(k)); x != want || e != api.OK {
		t.Fatalf("P21.5: Delete of the key %d = %d, %d, want %d", k, x, e, want)
	}
}

func mustLookup(t *testing.T, table *Table, k int, want uint64) {
	t.Helper()
	if at, e := table.Lookup(wideKey(k)); at != want || e != api.OK {
		t.Fatalf("P21.3: Lookup of the key %d = %d, %d, want %d", k, at, e, want)
	}
}

// TestManyEntries: as many as a table may have come, go by each order and come again; the numbers that went come again from the least on. What went through all of them for each call would take minutes.
func TestManyEntries(t *testing.T) {
	const n = api.MaxEntries
	for what, order := range orders(n) {
		t.Run(what, func(t *testing.T) {
			t.Parallel()
			h, _ := alone(t, hashOf(8, 3, n), 1<<32)
			for place, k := range order {
				mustUpdate(t, h, k, 1, 0)
				mustLookup(t, h, k, 1<<32+8*uint64(place))
			}
			mustUpdate(t, h, n, 0, -7)
			for range 4 {
				gone := order[:n/2]
				for _, k := range gone {
					mustDelete(t, h, k, 0)
				}
				mustDelete(t, h, gone[0], -2)
				wantComeAgain(t, h, gone)
			}
			for _, k := range order {
				mustDelete(t, h, k, 0)
			}
			wantContents(t, h)
			wantComeAgain(t, h, order)
			mustUpdate(t, h, n, 0, -7)
		})
	}
}

// wantComeAgain lets the entries with these keys come again, and holds each against the numbers that no entry has, of which Contents tells.
func wantComeAgain(t *testing.T, h *Table, keys []int) {
	t.Helper()
	es, _ := h.Contents()
	next := 0
	for _, k := range keys {
		for len(es) > 0 && es[0].Place == next {
			es = es[1:]
			next++
		}
		mustUpdate(t, h, k, 1, 0)
		mustLookup(t, h, k, 1<<32+8*uint64(next))
		next++
	}
}

// wideEntries gives entries at the places 0 to n - 1.
func wideEntries(n int) []api.Entry {
	es := make([]api.Entry, n)
	for k := range es {
		es[k] = api.Entry{Key: wideKey(k), Value: wideValue(k), Place: k}
	}
	return es
}

// TestManyFilled: a list as long as a table may have entries; one that is wrong at its end changes nothing; and lists of one entry each, in each order.
func TestManyFilled(t *testing.T) {
	t.Parallel()
	const n = api.MaxEntries
	es := wideEntries(n)
	h, _ := alone(t, hashOf(8, 3, n), 1<<32)
	for _, wrong := range []api.Entry{{Key: wideKey(0), Value: wideValue(0), Place: n - 1}, {Key: wideKey(n), Value: nil, Place: n - 1}} {
		list := append(slices.Clone(es[:n-1]), wrong)
		k, e := h.Fill(list)
		if want := map[int]api.Errno{0: api.ErrTablesValue, 3: api.ErrTablesKey}[len(wrong.Value)]; k != n-1 || e != want {
			t.Errorf("P21.2: Fill of many and a wrong one = %d, %d, want %d", k, e, want)
		}
		wantContents(t, h)
	}
	if k, e := h.Fill(append(slices.Clone(es), api.Entry{Key: wideKey(n), Value: wideValue(n), Place: n})); k != n || e != api.ErrTablesPlace {
		t.Errorf("P21.2: Fill of one more than there is room = %d, %d", k, e)
	}
	if k, e := h.Fill(es); k != 0 || e != api.OK {
		t.Fatalf("P21.2: Fill of many = %d, %d", k, e)
	}
	if told, e := h.Contents(); !slices.EqualFunc(told, es, sameEntry) || e != api.OK {
		t.Errorf("P21.6: Contents of many = %s, %d", short(told), e)
	}
	mustUpdate(t, h, n, 0, -7)
	for what, order := range orders(n) {
		one, _ := alone(t, hashOf(8, 3, n), 1<<32)
		for _, k := range order {
			if at, e := one.Fill(es[k : k+1]); at != 0 || e != api.OK {
				t.Fatalf("P21.2: %s: Fill of the entry %d = %d, %d", what, k, at, e)
			}
		}
		if told, e := one.Contents(); !slices.EqualFunc(told, es, sameEntry) || e != api.OK {
			t.Errorf("P21.6: %s: Contents = %s, %d", what, short(told), e)
		}
	}
}

// TestManySteps: a million calls of a table that is full but for one place.
func TestManySteps(t *testing.T) {
	t.Parallel()
	const n = api.MaxEntries
	h, _ := alone(t, hashOf(8, 3, n), 1<<32)
	h.Fill(wideEntries(n - 1))
	for k := range 1 << 20 {
		mustUpdate(t, h, n+k, 0, 0)
		mustLookup(t, h, n+k, 1<<32+8*(n-1))
		mustUpdate(t, h, n-1, 0, -7)
		mustDelete(t, h, n+k, 0)
	}
	one := []api.Entry{{Key: wideKey(n), Value: wideValue(n), Place: n - 1}}
	for range 1 << 20 {
		if k, e := h.Fill(one); k != 0 || e != api.OK {
			t.Fatalf("P21.2: Fill of the last place = %d, %d", k, e)
		}
		if k, e := h.Fill(one); k != 0 || e != api.ErrTablesPlace {
			t.Fatalf("P21.2: Fill of a place that is taken = %d, %d", k, e)
		}
		mustDelete(t, h, n, 0)
	}
}

// TestManyArray: an array of as many entries as may be.
func TestManyArray(t *testing.T) {
	t.Parallel()
	const n = api.MaxEntries
	a, _ := alone(t, arrayOf(3, n), 1<<32)
	var es []api.Entry
	for k := range n {
		es = append(es, api.Entry{Key: plainKey(k), Value: wideValue(k), Place: k})
	}
	if k, e := a.Fill(es); k != 0 || e != api.OK {
		t.Fatalf("P21.2: Fill of many = %d, %d", k, e)
	}
	for k := range 1 << 20 {
		key := plainKey(k % n)
		if at, e := a.Lookup(key); at != 1<<32+8*uint64(k%n) || e != api.OK {
			t.Fatalf("P21.3: Lookup(%v) = %d, %d", key, at, e)
		}
		if x, e := a.Update(key, wideValue(k), uint64(k%2*2)); x != 0 || e != api.OK {
			t.Fatalf("P21.4: Update(%v) = %d, %d", key, x, e)
		}
	}
	for k := range es {
		es[k].Value = wideValue(k + 1<<20 - n)
	}
	if told, e := a.Contents(); !slices.EqualFunc(told, es, sameEntry) || e != api.OK {
		t.Errorf("P21.6: Contents of many = %s, %d", short(told), e)
	}
	wantLookup(t, a, string(plainKey(n)), 0, api.OK)
	wantUpdate(t, a, string(plainKey(n)), "abc", 0, -2, api.OK)
}

// TestLongRows: the longest keys and values, as many as fit.
func TestLongRows(t *testing.T) {
	t.Parallel()
	const n = api.MaxSize / (64 + 4096 + 8)
	h, _ := alone(t, hashOf(64, 4096, n), 1<<32)
	var es []api.Entry
	for k := range n {
		key, value := make([]byte, 64), make([]byte, 4096)
		copy(key[60:], plainKey(k))
		copy(value[4092:], plainKey(k))
		if x, e := h.Update(key, value, 0); x != 0 || e != api.OK {
			t.Fatalf("P21.4: Update of the key %d = %d, %d", k, x, e)
		}
		if at, e := h.Lookup(key); at != 1<<32+4096*uint64(k) || e != api.OK {
			t.Fatalf("P21.3: Lookup of the key %d = %d, %d", k, at, e)
		}
		es = append(es, api.Entry{Key: key, Value: value, Place: k})
	}
	if told, e := h.Contents(); !slices.EqualFunc(told, es, sameEntry) || e != api.OK {
		t.Errorf("P21.6: Contents of long rows = %s, %d", short(told), e)
	}
}

// TestManyTables: as many tables as an image may have, in one space.
func TestManyTables(t *testing.T) {
	t.Parallel()
	s := spaceOf(t)
	var all []*Table
	for k := range uint64(api.MaxTables) {
		all = append(all, tableOf(t, s, hashOf(8, 3, 1000), api.TableAt+k*api.TableStep))
	}
	for k := range 200 {
		for _, table := range all {
			mustUpdate(t, table, k, 1, 0)
		}
	}
	for k, table := range all {
		mustLookup(t, table, 199, api.TableAt+uint64(k)*api.TableStep+8*199)
		mustDelete(t, table, k%200, 0)
		mustUpdate(t, table, 1000, 0, 0)
		mustLookup(t, table, 1000, api.TableAt+uint64(k)*api.TableStep+8*uint64(k%200))
	}
}
