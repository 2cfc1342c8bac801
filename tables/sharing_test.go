package tables

import (
	"slices"
	"strconv"
	"testing"

	"spindle/api"
)

// roomy gives the same bytes, with spare room behind them that is filled.
func roomy(s string) []byte {
	return append([]byte(s), 0xee, 0xee, 0xee, 0xee)[:len(s)]
}

// spoil writes over bytes and their spare room.
func spoil(b []byte) {
	for k := range b[:cap(b)] {
		b[:cap(b)][k] = 0xdd
	}
}

func wantLeft(t *testing.T, what string, b []byte, want string) {
	t.Helper()
	if room := b[len(b) : len(b)+4]; string(b) != want || string(room) != "\xee\xee\xee\xee" {
		t.Errorf("R4: %s: %q with its spare room %q, want %q", what, b, room, want)
	}
}

// TestBytesAreLeft: the keys and values that the calls are handed are neither changed nor kept.
func TestBytesAreLeft(t *testing.T) {
	h, s := alone(t, hashOf(2, 3, 4), 4096)
	a, b := roomy("aa"), roomy("bb")
	v, w := roomy("abc"), roomy("def")
	h.Update(a, v, 0)
	h.Update(b, w, 1)
	h.Update(a, w, 2)
	h.Update(a, v, 1)
	h.Update(a, v, 9)
	h.Lookup(a)
	h.Delete(roomy("cc"))
	s.Store(4096, 64, 0)
	wantLeft(t, "a key of Update", a, "aa")
	wantLeft(t, "a key of Update", b, "bb")
	wantLeft(t, "a value of Update", v, "abc")
	wantLeft(t, "a value of Update", w, "def")
	for _, one := range [][]byte{a, b, v, w} {
		spoil(one)
	}
	wantContents(t, h, entry("aa", "\x00\x00\x00", 0), entry("bb", "def", 1))
	wantLookup(t, h, "aa", 4096, api.OK)
	wantLookup(t, h, "\xdd\xdd", 0, api.OK)
	key := roomy("bb")
	h.Delete(key)
	wantLeft(t, "a key of Delete", key, "bb")
	spoil(key)
	wantContents(t, h, entry("aa", "\x00\x00\x00", 0))
}

// TestListsAreLeft: what Fill is handed is neither changed nor kept, whether it is taken or not.
func TestListsAreLeft(t *testing.T) {
	for _, right := range []bool{true, false} {
		h, _ := alone(t, hashOf(2, 3, 4), 4096)
		room := []api.Entry{
			{Key: roomy("aa"), Value: roomy("abc"), Place: 1},
			{Key: roomy("bb"), Value: roomy("def"), Place: 3},
			{Key: roomy("cc"), Value: roomy("ghi"), Place: 77},
		}
		if right {
			wantFill(t, h, room[:2], 0, api.OK)
		} else {
			wantFill(t, h, room, 2, api.ErrTablesPlace)
		}
		wantUpdate(t, h, "bb", "xyz", 0, 0, api.OK)
		for k, want := range []api.Entry{entry("aa", "abc", 1), entry("bb", "def", 3), entry("cc", "ghi", 77)} {
			wantLeft(t, "a key of Fill", room[k].Key, string(want.Key))
			wantLeft(t, "a value of Fill", room[k].Value, string(want.Value))
			if room[k].Place != want.Place {
				t.Errorf("R4: a Place of Fill is %d, want %d", room[k].Place, want.Place)
			}
			spoil(room[k].Key)
			spoil(room[k].Value)
		}
		clear(room)
		if right {
			wantContents(t, h, entry("aa", "abc", 1), entry("bb", "xyz", 3))
		} else {
			wantContents(t, h, entry("bb", "xyz", 0))
		}
	}
}

// TestOneList: the same bytes as key and value, and as those of several entries.
func TestOneList(t *testing.T) {
	h, _ := alone(t, hashOf(3, 3, 4), 4096)
	one := roomy("abc")
	h.Update(one, one, 0)
	copy(one, "def")
	h.Update(one, one, 0)
	copy(one, "ghi")
	wantFill(t, h, []api.Entry{{Key: one, Value: one, Place: 2}, {Key: one, Value: one, Place: 3}}, 1, api.ErrTablesKey)
	wantFill(t, h, []api.Entry{{Key: one, Value: one, Place: 2}, {Key: []byte("jkl"), Value: one, Place: 3}}, 0, api.OK)
	spoil(one)
	wantContents(t, h, entry("abc", "abc", 0), entry("def", "def", 1), entry("ghi", "ghi", 2), entry("jkl", "ghi", 3))
}

// TestContentsAreNew: whoever writes into what Contents answered, or appends to it, changes neither the table nor another list.
func TestContentsAreNew(t *testing.T) {
	h, _ := alone(t, hashOf(1, 3, 3), 4096)
	wantFill(t, h, []api.Entry{entry("a", "abc", 0), entry("b", "def", 1), entry("c", "ghi", 2)}, 0, api.OK)
	a, _ := alone(t, arrayOf(3, 3), 4096)
	wantUpdate(t, a, "\x01\x00\x00\x00", "abc", 0, 0, api.OK)
	for _, table := range []*Table{h, a} {
		want, _ := table.Contents()
		first, _ := table.Contents()
		second, _ := table.Contents()
		lists := [][]byte{}
		for _, e := range first {
			lists = append(lists, e.Key, e.Value)
		}
		for k, list := range lists {
			before := slices.Clone(lists[k:])
			for j := range before {
				before[j] = slices.Clone(before[j])
			}
			spoil(list)
			_ = append(list, 0xcc, 0xcc, 0xcc, 0xcc, 0xcc)
			for j := 1; j < len(before); j++ {
				if !slices.Equal(lists[k+j], before[j]) {
					t.Errorf("R4: two lists of Contents share memory: %v", first)
				}
			}
		}
		clear(first[:cap(first)])
		if !slices.EqualFunc(second, want, sameEntry) {
			t.Errorf("R4: Contents = %v, want %v", second, want)
		}
		wantContents(t, table, want...)
		for _, e := range want {
			wantLookup(t, table, string(e.Key), 4096+8*uint64(e.Place), api.OK)
		}
	}
}

// TestContentsStay: what Contents answered does not follow later calls.
func TestContentsStay(t *testing.T) {
	h, s := alone(t, hashOf(1, 3, 3), 4096)
	wantUpdate(t, h, "a", "abc", 0, 0, api.OK)
	wantUpdate(t, h, "b", "def", 0, 0, api.OK)
	es, _ := h.Contents()
	s.Put(4096, []byte("xyz"))
	wantUpdate(t, h, "b", "uvw", 0, 0, api.OK)
	wantDelete(t, h, "a", 0, api.OK)
	wantUpdate(t, h, "c", "ghi", 0, 0, api.OK)
	if !slices.EqualFunc(es, []api.Entry{entry("a", "abc", 0), entry("b", "def", 1)}, sameEntry) {
		t.Errorf("R4: Contents = %v behind calls", es)
	}
	wantContents(t, h, entry("c", "ghi", 0), entry("b", "uvw", 1))
}

// TestNothing: nil and empty lists are one.
func TestNothing(t *testing.T) {
	for _, d := range []api.TableDef{hashOf(1, 1, 1), arrayOf(1, 1)} {
		table, _ := alone(t, d, 16)
		for _, none := range [][]byte{nil, {}, make([]byte, 0, 9)} {
			if _, e := table.Lookup(none); e != api.ErrTablesKey {
				t.Errorf("P21.3: Lookup of no bytes = %d", e)
			}
			if _, e := table.Update(none, none, 0); e != api.ErrTablesKey {
				t.Errorf("P21.4: Update of no bytes = %d", e)
			}
			if _, e := table.Update(make([]byte, d.Key), none, 0); e != api.ErrTablesValue {
				t.Errorf("P21.4: Update to no bytes = %d", e)
			}
			if _, e := table.Delete(none); e != api.ErrTablesKey {
				t.Errorf("P21.5: Delete of no bytes = %d", e)
			}
			wantFill(t, table, []api.Entry{{Key: none, Value: none}}, 0, api.ErrTablesKey)
			wantFill(t, table, []api.Entry{{Key: make([]byte, d.Key), Value: none}}, 0, api.ErrTablesValue)
		}
		before, _ := table.Contents()
		wantFill(t, table, nil, 0, api.OK)
		wantFill(t, table, []api.Entry{}, 0, api.OK)
		wantContents(t, table, before...)
	}
}

// TestTwoSpaces: tables of one shape and address over two spaces have nothing to do with each other.
func TestTwoSpaces(t *testing.T) {
	a, s := alone(t, hashOf(1, 3, 2), 4096)
	b, _ := alone(t, hashOf(1, 3, 2), 4096)
	wantUpdate(t, a, "k", "abc", 0, 0, api.OK)
	wantContents(t, b)
	wantUpdate(t, b, "l", "def", 0, 0, api.OK)
	s.Put(4096, []byte("xyz"))
	wantContents(t, a, entry("k", "xyz", 0))
	wantContents(t, b, entry("l", "def", 0))
}

// TestSideBySide: one table is looked at by many at one time, each of which has one of its own too.
func TestSideBySide(t *testing.T) {
	h, _ := alone(t, hashOf(1, 3, 2), 4096)
	wantUpdate(t, h, "k", "abc", 0, 0, api.OK)
	for n := range 8 {
		t.Run(strconv.Itoa(n), func(t *testing.T) {
			t.Parallel()
			own, _ := alone(t, hashOf(1, 3, 2), 4096)
			for range 200 {
				wantLookup(t, h, "k", 4096, api.OK)
				wantLookup(t, h, "l", 0, api.OK)
				wantContents(t, h, entry("k", "abc", 0))
				wantUpdate(t, own, "k", "def", 0, 0, api.OK)
				wantUpdate(t, own, "l", "ghi", 0, 0, api.OK)
				wantContents(t, own, entry("k", "def", 0), entry("l", "ghi", 1))
				wantDelete(t, own, "k", 0, api.OK)
				wantDelete(t, own, "l", 0, api.OK)
			}
		})
	}
}
