package tables

import (
	"bytes"
	"fmt"
	"math"
	"slices"
	"testing"

	"spindle/api"
	"spindle/memory"
)

const end = math.MaxUint64 // the last address

func short(what any) string {
	s := fmt.Sprintf("%v", what)
	return s[:min(len(s), 400)]
}

func hashOf(key, value, entries int) api.TableDef {
	return api.TableDef{Kind: api.TableHash, Key: key, Value: value, Entries: entries}
}

func arrayOf(value, entries int) api.TableDef {
	return api.TableDef{Kind: api.TableArray, Key: 4, Value: value, Entries: entries}
}

func entry(key, value string, place int) api.Entry {
	return api.Entry{Key: []byte(key), Value: []byte(value), Place: place}
}

func sameEntry(a, b api.Entry) bool {
	return a.Place == b.Place && bytes.Equal(a.Key, b.Key) && bytes.Equal(a.Value, b.Value)
}

func spaceOf(t *testing.T, rs ...api.Region) *memory.Space {
	t.Helper()
	s, e := memory.New(rs)
	if s == nil || e != api.OK {
		t.Fatalf("a space of %s: %d", short(rs), e)
	}
	return s
}

func tableOf(t *testing.T, s *memory.Space, d api.TableDef, first uint64) *Table {
	t.Helper()
	table, e := New(s, d, first)
	if table == nil || e != api.OK {
		t.Fatalf("P21.1: New(%v, %d) = %v, %d, want a table, OK", d, first, table != nil, e)
	}
	return table
}

// alone gives a table in a space of its own.
func alone(t *testing.T, d api.TableDef, first uint64) (*Table, *memory.Space) {
	t.Helper()
	s := spaceOf(t)
	return tableOf(t, s, d, first), s
}

func wantNoTable(t *testing.T, s *memory.Space, d api.TableDef, first uint64, want api.Errno) {
	t.Helper()
	if table, e := New(s, d, first); table != nil || e != want {
		t.Errorf("P21.1: New(%v, %d) = %v, %d, want none, %d", d, first, table != nil, e, want)
	}
}

func wantFill(t *testing.T, table *Table, es []api.Entry, want int, wantE api.Errno) {
	t.Helper()
	if k, e := table.Fill(es); k != want || e != wantE {
		t.Errorf("P21.2: Fill(%s) = %d, %d, want %d, %d", short(es), k, e, want, wantE)
	}
}

func wantLookup(t *testing.T, table *Table, key string, want uint64, wantE api.Errno) {
	t.Helper()
	if at, e := table.Lookup([]byte(key)); at != want || e != wantE {
		t.Errorf("P21.3: Lookup(%q) = %d, %d, want %d, %d", key, at, e, want, wantE)
	}
}

func wantUpdate(t *testing.T, table *Table, key, value string, flags uint64, want int, wantE api.Errno) {
	t.Helper()
	if x, e := table.Update([]byte(key), []byte(value), flags); x != want || e != wantE {
		t.Errorf("P21.4: Update(%q, %q, %d) = %d, %d, want %d, %d", key, value, flags, x, e, want, wantE)
	}
}

func wantDelete(t *testing.T, table *Table, key string, want int, wantE api.Errno) {
	t.Helper()
	if x, e := table.Delete([]byte(key)); x != want || e != wantE {
		t.Errorf("P21.5: Delete(%q) = %d, %d, want %d, %d", key, x, e, want, wantE)
	}
}

func wantContents(t *testing.T, table *Table, want ...api.Entry) {
	t.Helper()
	if es, e := table.Contents(); !slices.EqualFunc(es, want, sameEntry) || e != api.OK {
		t.Errorf("P21.6: Contents() = %s, %d, want %s, OK", short(es), e, short(want))
	}
}

func wantBytes(t *testing.T, s *memory.Space, at uint64, want string) {
	t.Helper()
	if b, e := s.Bytes(at, len(want)); string(b) != want || e != api.OK {
		t.Errorf("Bytes(%d, %d) = %q, %d, want %q", at, len(want), short(b), e, want)
	}
}

func TestExamples(t *testing.T) {
	h, s := alone(t, hashOf(1, 3, 2), 4096)
	wantUpdate(t, h, "5", "abc", 0, 0, api.OK)
	wantUpdate(t, h, "6", "def", 1, 0, api.OK)
	wantUpdate(t, h, "7", "ghi", 0, -7, api.OK)
	wantLookup(t, h, "5", 4096, api.OK)
	wantLookup(t, h, "6", 4104, api.OK)
	wantLookup(t, h, "7", 0, api.OK)
	wantLookup(t, h, "56", 0, api.ErrTablesKey)
	wantUpdate(t, h, "5", "xyz", 1, -17, api.OK)
	wantUpdate(t, h, "7", "xyz", 2, -2, api.OK)
	wantUpdate(t, h, "5", "xyz", 3, -22, api.OK)
	wantUpdate(t, h, "7", "xy", 3, 0, api.ErrTablesValue)
	wantDelete(t, h, "5", 0, api.OK)
	wantDelete(t, h, "5", -2, api.OK)
	wantUpdate(t, h, "9", "jkl", 0, 0, api.OK)
	wantLookup(t, h, "9", 4096, api.OK)
	s.Store(4107, 8, 1)
	wantBytes(t, s, 4104, "def\x01\x00\x00\x00\x00")
	wantUpdate(t, h, "6", "mno", 2, 0, api.OK)
	wantBytes(t, s, 4104, "mno\x01\x00\x00\x00\x00")
	wantContents(t, h, entry("9", "jkl", 0), entry("6", "mno", 1))
	a, s := alone(t, arrayOf(1, 3), 64)
	wantUpdate(t, a, "\x03\x00\x00\x00", "a", 9, -2, api.OK)
	wantUpdate(t, a, "\x02\x00\x00\x00", "a", 9, -22, api.OK)
	wantUpdate(t, a, "\x02\x00\x00\x00", "a", 1, -17, api.OK)
	wantDelete(t, a, "\x00\x00\x00\x00", -22, api.OK)
	wantNoTable(t, nil, arrayOf(1, 1), 0, api.ErrNil)
	wantNoTable(t, s, api.TableDef{Kind: 3, Key: 4, Value: 1, Entries: 1}, 0, api.ErrTablesKind)
	wantNoTable(t, s, api.TableDef{Kind: api.TableArray, Key: 8, Value: 1, Entries: 1}, 0, api.ErrTablesSize)
	wantNoTable(t, s, hashOf(1, 4097, 1), 0, api.ErrTablesSize)
	wantNoTable(t, s, hashOf(1, 1, 1), 64, api.ErrMemoryRegion)
}

// TestNilTable: ErrNil goes ahead of every other error; a table that New has not made is taken as none.
func TestNilTable(t *testing.T) {
	for _, none := range []*Table{nil, new(Table)} {
		for _, es := range [][]api.Entry{nil, {entry("a", "b", 0)}, {entry("", "", -1)}} {
			wantFill(t, none, es, 0, api.ErrNil)
		}
		for _, key := range []string{"", "a", "abcd", "\x00\x00\x00\x00"} {
			wantLookup(t, none, key, 0, api.ErrNil)
			wantDelete(t, none, key, 0, api.ErrNil)
			for _, flags := range []uint64{0, 1, 2, 3, end} {
				wantUpdate(t, none, key, "", flags, 0, api.ErrNil)
				wantUpdate(t, none, key, "value", flags, 0, api.ErrNil)
			}
		}
		if es, e := none.Contents(); len(es) != 0 || e != api.ErrNil {
			t.Errorf("P21.6: Contents() of none = %v, %d, want none, ErrNil", es, e)
		}
	}
}

// TestNewOrder: of several errors the first in the row is answered: no space, the kind, the sizes, the region.
func TestNewOrder(t *testing.T) {
	s := spaceOf(t, api.Region{First: 64, Data: make([]byte, 8)})
	for _, kind := range []int{math.MinInt, -1, 0, 3, 4, 257, 1<<32 + 1, 1<<32 + 2, math.MaxInt} {
		wantNoTable(t, nil, api.TableDef{Kind: kind}, 64, api.ErrNil)
		wantNoTable(t, s, api.TableDef{Kind: kind, Key: 4, Value: 1, Entries: 1}, 0, api.ErrTablesKind)
		wantNoTable(t, s, api.TableDef{Kind: kind, Key: -1, Value: -1, Entries: math.MaxInt}, 64, api.ErrTablesKind)
	}
	wantNoTable(t, nil, arrayOf(1, 0), 64, api.ErrNil)
	wantNoTable(t, nil, hashOf(1, 1, 1), 64, api.ErrNil)
	wantNoTable(t, s, arrayOf(0, 1), 64, api.ErrTablesSize)
	wantNoTable(t, s, hashOf(1, 1, math.MinInt), 64, api.ErrTablesSize)
	wantNoTable(t, s, hashOf(1, 1, 2), 56, api.ErrMemoryRegion)
	wantNoTable(t, s, arrayOf(1, 1), 71, api.ErrMemoryRegion)
	wantNoTable(t, s, arrayOf(1, 2), end-14, api.ErrMemoryRegion)
	if rs, _ := s.Regions(); len(rs) != 1 || rs[0].First != 64 {
		t.Errorf("P21.1: refused calls of New left the regions %v", rs)
	}
}

// TestNewRegion: the region that New lays has a row for each entry, of bytes 0, and nothing beyond.
func TestNewRegion(t *testing.T) {
	for value := 1; value <= 33; value++ {
		for entries := 1; entries <= 4; entries++ {
			for _, d := range []api.TableDef{hashOf(3, value, entries), arrayOf(value, entries)} {
				n := entries * plainRow(value)
				for _, first := range []uint64{0, 7, 4096, end - uint64(n) + 1} {
					table, s := alone(t, d, first)
					rs, _ := s.Regions()
					if len(rs) != 1 || rs[0].First != first || !bytes.Equal(rs[0].Data, make([]byte, n)) {
						t.Fatalf("P21.1: New(%v, %d) lays %v, want %d bytes", d, first, rs, n)
					}
					es, e := table.Contents()
					if want := map[int]int{api.TableArray: entries}[d.Kind]; len(es) != want || e != api.OK {
						t.Fatalf("P21.1: New(%v) has %v, %d, want %d entries", d, es, e, want)
					}
				}
				wantNoTable(t, spaceOf(t), d, end-uint64(n)+2, api.ErrMemoryRegion)
			}
		}
	}
}

// TestNewSizes: each size at and beside its bounds, with each of the others.
func TestNewSizes(t *testing.T) {
	t.Parallel()
	odd := []int{math.MinInt, math.MinInt + 7, -1 << 32, -8, -1, 0, math.MaxInt, math.MaxInt - 7, 1 << 32, 1<<32 + 4, 1 << 61, 1 << 62}
	keys := append([]int{1, 3, 4, 5, 63, 64, 65, 68, 260}, odd...)
	values := append([]int{1, 7, 8, 9, 4088, 4089, 4095, 4096, 4097, 1 << 16}, odd...)
	counts := append([]int{1, 2, 4025, 4026, 65535, 65536, 65537, 1 << 24}, odd...)
	for _, kind := range []int{api.TableArray, api.TableHash} {
		for _, key := range keys {
			for _, value := range values {
				for _, count := range counts {
					wantSizes(t, api.TableDef{Kind: kind, Key: key, Value: value, Entries: count})
				}
			}
		}
	}
}

// wantSizes holds New against the words on sizes.
func wantSizes(t *testing.T, d api.TableDef) {
	t.Helper()
	s := spaceOf(t)
	table, e := New(s, d, 4096)
	want := plainSizes(d)
	if e != want || (table != nil) != (want == api.OK) {
		t.Fatalf("P21.1: New(%v) = %v, %d, want %d", d, table != nil, e, want)
	}
	if rs, _ := s.Regions(); len(rs) != map[api.Errno]int{api.OK: 1}[want] {
		t.Fatalf("P21.1: New(%v) = %d, and %d regions", d, e, len(rs))
	}
}

// TestNewWhole: the greatest number of entries that fits into the size of a whole table, and one more.
func TestNewWhole(t *testing.T) {
	t.Parallel()
	for _, d := range []api.TableDef{hashOf(8, 240, 0), hashOf(8, 233, 0), hashOf(9, 240, 0), hashOf(7, 240, 0), hashOf(8, 241, 0), hashOf(64, 4096, 0), hashOf(1, 4096, 0), hashOf(56, 4089, 0), hashOf(16, 1000, 0), hashOf(1, 1, 0), arrayOf(240, 0), arrayOf(241, 0), arrayOf(248, 0), arrayOf(4096, 0), arrayOf(1, 0)} {
		fit := api.MaxSize / (d.Key + plainRow(d.Value) + 8)
		for _, d.Entries = range []int{min(fit, api.MaxEntries) - 1, min(fit, api.MaxEntries), min(fit, api.MaxEntries) + 1} {
			wantSizes(t, d)
		}
	}
	tableOf(t, spaceOf(t), hashOf(8, 240, 65536), 0)
	wantNoTable(t, spaceOf(t), hashOf(9, 240, 65536), 0, api.ErrTablesSize)
}

// TestName: a table's name is not looked at.
func TestName(t *testing.T) {
	for _, name := range []string{"", "t", "no name", "\xff\x00"} {
		d := hashOf(1, 1, 1)
		d.Name = name
		table, _ := alone(t, d, 16)
		wantUpdate(t, table, "k", "v", 0, 0, api.OK)
		wantContents(t, table, entry("k", "v", 0))
	}
}

// TestLengths: keys and values of another length than the shape's, each of which goes ahead of what is behind it in the row.
func TestLengths(t *testing.T) {
	long := "\x00\x00\x00\x00\x00\x00\x00\x00\x00"
	for _, d := range []api.TableDef{hashOf(1, 3, 2), hashOf(4, 3, 2), hashOf(8, 3, 2), arrayOf(3, 2)} {
		table, s := alone(t, d, 16)
		key := long[:d.Key]
		wantUpdate(t, table, key, "abc", 0, 0, api.OK)
		for n := range len(long) + 1 {
			if n == d.Key {
				continue
			}
			wantLookup(t, table, long[:n], 0, api.ErrTablesKey)
			wantDelete(t, table, long[:n], 0, api.ErrTablesKey)
			wantFill(t, table, []api.Entry{entry(long[:n], "ab", 1)}, 0, api.ErrTablesKey)
			wantFill(t, table, []api.Entry{entry(long[:n], "ab", 2)}, 0, api.ErrTablesPlace)
			for _, flags := range []uint64{0, 1, 2, 3} {
				wantUpdate(t, table, long[:n], "xyz", flags, 0, api.ErrTablesKey)
				wantUpdate(t, table, long[:n], "xyzw", flags, 0, api.ErrTablesKey)
			}
		}
		for _, value := range []string{"", "x", "xy", "xyzw", "xyzwxyzw"} {
			for _, flags := range []uint64{0, 1, 2, 3} {
				wantUpdate(t, table, key, value, flags, 0, api.ErrTablesValue)
				wantUpdate(t, table, "\x09"+key[1:], value, flags, 0, api.ErrTablesValue)
			}
			wantFill(t, table, []api.Entry{entry("\x01"+key[1:], value, 1)}, 0, api.ErrTablesValue)
		}
		wantBytes(t, s, 16, "abc\x00\x00\x00\x00\x00\x00\x00\x00\x00\x00\x00\x00\x00")
		wantLookup(t, table, key, 16, api.OK)
	}
}

// TestFlags: any number of 64 bits may be handed in as flags.
func TestFlags(t *testing.T) {
	for _, flags := range []uint64{3, 4, 5, 255, 256, 1<<32 - 1, 1 << 32, 1<<32 + 1, 1<<32 + 2, 1 << 63, 1<<63 + 1, 1<<63 + 2, end - 1, end} {
		h, _ := alone(t, hashOf(1, 1, 1), 16)
		wantUpdate(t, h, "a", "x", flags, -22, api.OK)
		wantContents(t, h)
		wantUpdate(t, h, "a", "x", 0, 0, api.OK)
		wantUpdate(t, h, "a", "y", flags, -22, api.OK)
		wantUpdate(t, h, "b", "y", flags, -22, api.OK)
		wantContents(t, h, entry("a", "x", 0))
		a, _ := alone(t, arrayOf(1, 1), 16)
		wantUpdate(t, a, "\x00\x00\x00\x00", "x", flags, -22, api.OK)
		wantUpdate(t, a, "\x01\x00\x00\x00", "x", flags, -2, api.OK)
		wantContents(t, a, entry("\x00\x00\x00\x00", "\x00", 0))
	}
}

// TestArrayKeys: all four bytes of an array's key count.
func TestArrayKeys(t *testing.T) {
	a, s := alone(t, arrayOf(2, 300), 1<<32)
	for _, key := range []string{"\x2c\x01\x00\x00", "\x00\x02\x00\x00", "\x05\x00\x01\x00", "\x05\x00\x00\x01", "\x05\x00\x00\x80", "\xff\xff\xff\xff", "\x00\x00\x00\x05", "\xff\xff\xff\x7f"} {
		wantLookup(t, a, key, 0, api.OK)
		wantUpdate(t, a, key, "xy", 0, -2, api.OK)
		wantDelete(t, a, key, -22, api.OK)
		wantFill(t, a, []api.Entry{entry(key, "xy", 5)}, 0, api.ErrTablesKey)
	}
	wantLookup(t, a, "\x00\x00\x00\x00", 1<<32, api.OK)
	wantLookup(t, a, "\x05\x00\x00\x00", 1<<32+40, api.OK)
	wantLookup(t, a, "\x2b\x01\x00\x00", 1<<32+299*8, api.OK)
	wantUpdate(t, a, "\x2b\x01\x00\x00", "xy", 2, 0, api.OK)
	wantBytes(t, s, 1<<32+298*8, "\x00\x00\x00\x00\x00\x00\x00\x00xy\x00\x00\x00\x00\x00\x00")
	wantFill(t, a, []api.Entry{entry("\x00\x01\x00\x00", "zz", 256), entry("\x01\x01\x00\x00", "ww", 257)}, 0, api.OK)
	wantBytes(t, s, 1<<32+256*8, "zz\x00\x00\x00\x00\x00\x00ww")
}

// TestHashKeys: keys are any bytes, and two that differ in one alone are two.
func TestHashKeys(t *testing.T) {
	h, _ := alone(t, hashOf(64, 1, 1024), 1<<32)
	plainKey := make([]byte, 64)
	wantUpdate(t, h, string(plainKey), "v", 1, 0, api.OK)
	n := uint64(1)
	for k := range 64 {
		for _, b := range []byte{1, 0x80, 0xff} {
			key := slices.Clone(plainKey)
			key[k] = b
			wantLookup(t, h, string(key), 0, api.OK)
			wantUpdate(t, h, string(key), "v", 1, 0, api.OK)
			wantLookup(t, h, string(key), 1<<32+8*n, api.OK)
			n++
		}
	}
	one, _ := alone(t, hashOf(1, 1, 256), 0)
	for b := range 256 {
		wantUpdate(t, one, string([]byte{byte(b)}), "v", 1, 0, api.OK)
	}
	for b := range 256 {
		wantLookup(t, one, string([]byte{byte(b)}), 8*uint64(b), api.OK)
	}
	wantUpdate(t, one, "a", "w", 1, -17, api.OK)
}

// TestLeast: an entry that comes gets the least number that is free, whatever went ahead of it.
func TestLeast(t *testing.T) {
	h, _ := alone(t, hashOf(1, 1, 8), 800)
	for _, key := range "abcdefgh" {
		wantUpdate(t, h, string(key), "v", 0, 0, api.OK)
	}
	for _, key := range "gbehd" {
		wantDelete(t, h, string(key), 0, api.OK)
	}
	for k, key := range "vwxyz" {
		wantUpdate(t, h, string(key), "v", 0, 0, api.OK)
		wantLookup(t, h, string(key), 800+8*[]uint64{1, 3, 4, 6, 7}[k], api.OK)
	}
	wantUpdate(t, h, "b", "v", 0, -7, api.OK)
	wantUpdate(t, h, "v", "u", 0, 0, api.OK)
	wantLookup(t, h, "v", 808, api.OK)
}

// TestLeastBesideFill: numbers that Fill took are not free, until their entries go.
func TestLeastBesideFill(t *testing.T) {
	h, _ := alone(t, hashOf(1, 1, 6), 800)
	wantFill(t, h, []api.Entry{entry("a", "v", 0), entry("b", "v", 3), entry("c", "v", 4)}, 0, api.OK)
	wantUpdate(t, h, "d", "v", 0, 0, api.OK)
	wantUpdate(t, h, "e", "v", 0, 0, api.OK)
	wantUpdate(t, h, "f", "v", 0, 0, api.OK)
	wantUpdate(t, h, "g", "v", 0, -7, api.OK)
	wantContents(t, h, entry("a", "v", 0), entry("d", "v", 1), entry("e", "v", 2), entry("b", "v", 3), entry("c", "v", 4), entry("f", "v", 5))
	wantDelete(t, h, "b", 0, api.OK)
	wantFill(t, h, []api.Entry{entry("b", "w", 3)}, 0, api.OK)
	wantDelete(t, h, "c", 0, api.OK)
	wantDelete(t, h, "b", 0, api.OK)
	wantUpdate(t, h, "g", "v", 0, 0, api.OK)
	wantLookup(t, h, "g", 824, api.OK)
	wantFill(t, h, []api.Entry{entry("b", "w", 4)}, 0, api.OK)
	wantUpdate(t, h, "h", "v", 0, -7, api.OK)
}

// TestPadding: what is stored behind a value stays when it is updated or taken out, and is 0 where an entry of a hash comes; an array's stays.
func TestPadding(t *testing.T) {
	h, s := alone(t, hashOf(1, 5, 3), 4096)
	all := "\xee\xee\xee\xee\xee\xee\xee\xee"
	s.Put(4096, []byte(all+all+all))
	wantUpdate(t, h, "a", "abcde", 0, 0, api.OK)
	wantFill(t, h, []api.Entry{entry("c", "vwxyz", 2)}, 0, api.OK)
	wantBytes(t, s, 4096, "abcde\x00\x00\x00"+all+"vwxyz\x00\x00\x00")
	s.Put(4101, []byte("123"))
	wantUpdate(t, h, "a", "fghij", 2, 0, api.OK)
	wantBytes(t, s, 4096, "fghij123"+all)
	wantDelete(t, h, "a", 0, api.OK)
	wantBytes(t, s, 4096, "fghij123"+all)
	wantUpdate(t, h, "b", "klmno", 1, 0, api.OK)
	wantBytes(t, s, 4096, "klmno\x00\x00\x00"+all+"vwxyz\x00\x00\x00")
	a, s := alone(t, arrayOf(5, 2), 4096)
	s.Put(4096, []byte(all+all))
	wantUpdate(t, a, "\x01\x00\x00\x00", "abcde", 0, 0, api.OK)
	wantBytes(t, s, 4096, all+"abcde\xee\xee\xee")
	wantFill(t, a, []api.Entry{entry("\x00\x00\x00\x00", "fghij", 0)}, 0, api.OK)
	wantBytes(t, s, 4096, "fghij\xee\xee\xeeabcde\xee\xee\xee")
}

// TestStored: values are the bytes of the region, whoever wrote them.
func TestStored(t *testing.T) {
	h, s := alone(t, hashOf(1, 8, 2), 4096)
	wantUpdate(t, h, "a", "abcdefgh", 0, 0, api.OK)
	s.Store(4098, 32, 0x34333231)
	s.Put(4104, []byte("stuvwxyz"))
	wantContents(t, h, entry("a", "ab1234gh", 0))
	wantUpdate(t, h, "b", "ijklmnop", 0, 0, api.OK)
	s.Store(4100, 64, 0)
	wantContents(t, h, entry("a", "ab12\x00\x00\x00\x00", 0), entry("b", "\x00\x00\x00\x00mnop", 1))
	a, s := alone(t, arrayOf(2, 2), 4096)
	s.Put(4095+8, []byte("xyz"))
	wantContents(t, a, entry("\x00\x00\x00\x00", "\x00\x00", 0), entry("\x01\x00\x00\x00", "yz", 1))
}

// TestTaken: of a table whose region is gone, or another one, no call panics, and none lays a region of its own.
func TestTaken(t *testing.T) {
	for _, d := range []api.TableDef{hashOf(4, 3, 2), arrayOf(3, 2)} {
		for _, other := range []int{-1, 0, 1, 2, 3, 8, 11, 15} {
			table, s := alone(t, d, 4096)
			s.Remove(4096)
			if other >= 0 {
				s.Add(api.Region{First: 4096, Data: make([]byte, other)})
			}
			for range 2 {
				table.Fill([]api.Entry{entry("\x00\x00\x00\x00", "abc", 0), entry("\x01\x00\x00\x00", "abc", 1)})
				for _, key := range []string{"\x00\x00\x00\x00", "\x01\x00\x00\x00", "\x02\x00\x00\x00"} {
					for flags := range uint64(4) {
						table.Update([]byte(key), []byte("xyz"), flags)
					}
					table.Lookup([]byte(key))
					table.Contents()
					table.Delete([]byte(key))
				}
			}
			rs, _ := s.Regions()
			if len(rs) != min(other+1, 1) {
				t.Errorf("calls of a table whose region was taken left the regions %v", rs)
			}
		}
	}
}

// TestTwoTables: tables of one space have nothing to do with each other, but that their regions don't meet.
func TestTwoTables(t *testing.T) {
	s := spaceOf(t)
	a := tableOf(t, s, hashOf(1, 3, 2), 16)
	wantNoTable(t, s, hashOf(1, 3, 2), 16, api.ErrMemoryRegion)
	wantNoTable(t, s, hashOf(1, 3, 1), 24, api.ErrMemoryRegion)
	b := tableOf(t, s, hashOf(1, 3, 2), 32)
	c := tableOf(t, s, arrayOf(3, 2), 0)
	wantUpdate(t, a, "k", "abc", 0, 0, api.OK)
	wantUpdate(t, b, "k", "def", 1, 0, api.OK)
	wantUpdate(t, c, "\x01\x00\x00\x00", "ghi", 2, 0, api.OK)
	wantUpdate(t, a, "l", "jkl", 1, 0, api.OK)
	wantDelete(t, a, "k", 0, api.OK)
	wantLookup(t, a, "k", 0, api.OK)
	wantLookup(t, b, "k", 32, api.OK)
	wantContents(t, a, entry("l", "jkl", 1))
	wantContents(t, b, entry("k", "def", 0))
	wantContents(t, c, entry("\x00\x00\x00\x00", "\x00\x00\x00", 0), entry("\x01\x00\x00\x00", "ghi", 1))
}
