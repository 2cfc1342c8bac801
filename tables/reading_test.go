package tables

import (
	"bytes"
	"fmt"
	"math/rand"
	"slices"
	"testing"

	"spindle/api"
	"spindle/memory"
)

const margin = 16 // how many bytes the tests lay ahead of a table's region and behind it

// pair is a table and the plain one beside it, of which the same is asked. Regions touch the table's, so that what is laid beyond it is seen.
type pair struct {
	table *Table
	space *memory.Space
	plain *plain
	said  []string
}

func pairOf(t *testing.T, d api.TableDef, first uint64) *pair {
	t.Helper()
	s := spaceOf(t)
	w := &pair{table: tableOf(t, s, d, first), space: s, plain: plainOf(d, first)}
	if first >= margin {
		s.Add(api.Region{First: first - margin, Data: bytes.Repeat([]byte{0xaa}, margin)})
	}
	if behind := first + uint64(len(w.plain.region)); behind != 0 {
		s.Add(api.Region{First: behind, Data: bytes.Repeat([]byte{0xbb}, margin)})
	}
	return w
}

func (w *pair) say(format string, args ...any) {
	w.said = append(w.said, fmt.Sprintf(format, args...))
}

// compare holds all that is to be seen of a table against the plain one; it changes nothing.
func (w *pair) compare(t *testing.T, keys ...[]byte) {
	t.Helper()
	if es, e := w.table.Contents(); !slices.EqualFunc(es, w.plain.contents(), sameEntry) || e != api.OK {
		t.Fatalf("P21.6: behind %q of %v: Contents() = %v, %d, want %v", w.said, w.plain.def, es, e, w.plain.contents())
	}
	for _, key := range keys {
		w.lookup(t, key)
	}
	rs, _ := w.space.Regions()
	for _, r := range rs {
		want := bytes.Repeat([]byte{0xbb}, margin)
		switch {
		case r.First == w.plain.first:
			want = w.plain.region
		case r.First+margin == w.plain.first:
			want = bytes.Repeat([]byte{0xaa}, margin)
		}
		if !bytes.Equal(r.Data, want) {
			t.Fatalf("behind %q of %v: the region at %d is %v, want %v", w.said, w.plain.def, r.First, r.Data, want)
		}
	}
}

func (w *pair) fill(t *testing.T, es []api.Entry) {
	t.Helper()
	w.say("Fill(%v)", es)
	want, wantE := w.plain.fill(es)
	if k, e := w.table.Fill(es); k != want || e != wantE {
		t.Fatalf("P21.2: %q of %v = %d, %d, want %d, %d", w.said, w.plain.def, k, e, want, wantE)
	}
}

func (w *pair) lookup(t *testing.T, key []byte) {
	t.Helper()
	want, wantE := w.plain.lookup(key)
	if at, e := w.table.Lookup(key); at != want || e != wantE {
		t.Fatalf("P21.3: behind %q of %v: Lookup(%v) = %d, %d, want %d, %d", w.said, w.plain.def, key, at, e, want, wantE)
	}
}

func (w *pair) update(t *testing.T, key, value []byte, flags uint64) {
	t.Helper()
	w.say("Update(%v, %v, %d)", key, value, flags)
	want, wantE := w.plain.update(key, value, flags)
	if x, e := w.table.Update(key, value, flags); x != want || e != wantE {
		t.Fatalf("P21.4: %q of %v = %d, %d, want %d, %d", w.said, w.plain.def, x, e, want, wantE)
	}
}

func (w *pair) delete(t *testing.T, key []byte) {
	t.Helper()
	w.say("Delete(%v)", key)
	want, wantE := w.plain.delete(key)
	if x, e := w.table.Delete(key); x != want || e != wantE {
		t.Fatalf("P21.5: %q of %v = %d, %d, want %d, %d", w.said, w.plain.def, x, e, want, wantE)
	}
}

// store is what a program does: it writes somewhere in the region.
func (w *pair) store(t *testing.T, by int, b []byte) {
	t.Helper()
	w.say("Put(%d, %v)", by, b)
	copy(w.plain.region[by:], b)
	if e := w.space.Put(w.plain.first+uint64(by), b); e != api.OK {
		t.Fatalf("Put(%d, %v) = %d", by, b, e)
	}
}

// call is something that is asked of both tables of a pair.
type call func(t *testing.T, w *pair)

func updateCall(key, value string, flags uint64) call {
	return func(t *testing.T, w *pair) { w.update(t, []byte(key), []byte(value), flags) }
}

func deleteCall(key string) call {
	return func(t *testing.T, w *pair) { w.delete(t, []byte(key)) }
}

func fillCall(es ...api.Entry) call {
	return func(t *testing.T, w *pair) { w.fill(t, es) }
}

func storeCall(by int, b ...byte) call {
	return func(t *testing.T, w *pair) { w.store(t, by, b) }
}

// allRows asks each row of so many calls of a table of that shape.
func allRows(t *testing.T, d api.TableDef, first uint64, calls []call, n int, keys ...[]byte) {
	t.Helper()
	row := make([]int, n)
	for {
		w := pairOf(t, d, first)
		for _, k := range row {
			calls[k](t, w)
		}
		w.compare(t, keys...)
		k := 0
		for k < n && row[k] == len(calls)-1 {
			row[k] = 0
			k++
		}
		if k == n {
			return
		}
		row[k]++
	}
}

func letters(s string) [][]byte {
	var all [][]byte
	for _, c := range s {
		all = append(all, []byte(string(c)))
	}
	return all
}

// TestHashRows: all rows of three of many calls, and all longer ones of few.
func TestHashRows(t *testing.T) {
	t.Parallel()
	d := hashOf(1, 3, 2)
	var few, many []call
	for _, key := range []string{"a", "b", "c"} {
		few = append(few, updateCall(key, "key", 0), deleteCall(key))
		many = append(many, deleteCall(key))
		for flags := range uint64(4) {
			many = append(many, updateCall(key, "x"+key+"y", flags))
		}
	}
	few = append(few, fillCall(entry("a", "fil", 1)), fillCall(entry("c", "fil", 0)), storeCall(2, 1, 2))
	many = append(many, fillCall(entry("a", "fil", 1)), fillCall(entry("b", "fil", 0), entry("c", "lif", 1)), fillCall(entry("b", "fil", 0), entry("b", "lif", 1)), storeCall(0, 1, 2, 3, 4, 5), storeCall(7, 9, 9, 9), updateCall("", "abc", 0), updateCall("a", "ab", 3))
	keys := append(letters("abcd"), nil, []byte("ab"))
	allRows(t, d, 4096, many, 3, keys...)
	allRows(t, d, 4096, few, 5, keys...)
	allRows(t, hashOf(1, 3, 1), 0, few[:6], 5, keys...)
	allRows(t, hashOf(1, 3, 3), end-23, few, 4, keys...)
}

// TestArrayRows: the same of an array.
func TestArrayRows(t *testing.T) {
	t.Parallel()
	var calls []call
	keys := [][]byte{nil, {0}}
	for number := range 3 {
		key := plainKey(number)
		keys = append(keys, key)
		calls = append(calls, deleteCall(string(key)), fillCall(entry(string(key), "fil", number)))
		for flags := range uint64(4) {
			calls = append(calls, updateCall(string(key), "xyz", flags))
		}
	}
	calls = append(calls, storeCall(1, 1, 2, 3, 4), storeCall(7, 5, 5), fillCall(entry(string(keys[2]), "abc", 0), entry(string(keys[3]), "def", 1)))
	for _, first := range []uint64{0, 4096, end - 15} {
		allRows(t, arrayOf(3, 2), first, calls, 3, keys...)
	}
}

// fillStates gives some ways in which a hash of two entries, keys of one byte and values of three, may stand.
func fillStates() [][]call {
	return [][]call{
		nil,
		{updateCall("a", "abc", 0)},
		{fillCall(entry("a", "abc", 1))},
		{updateCall("c", "abc", 0), updateCall("b", "abc", 0), deleteCall("c")},
		{updateCall("b", "abc", 0), updateCall("d", "abc", 0)},
	}
}

// TestFillLists: all lists of up to three entries, right and wrong in all ways, over a hash that stands in several ways.
func TestFillLists(t *testing.T) {
	t.Parallel()
	var all []api.Entry
	for _, key := range []string{"a", "b", "ab"} {
		for place := -1; place <= 3; place++ {
			all = append(all, entry(key, "fil", place), entry(key, "fi", place))
		}
	}
	for _, d := range []api.TableDef{hashOf(1, 3, 2), hashOf(1, 3, 3)} {
		for _, state := range fillStates() {
			for _, es := range lists(all, 3) {
				w := pairOf(t, d, 4096)
				for _, do := range state {
					do(t, w)
				}
				w.fill(t, es)
				w.compare(t, letters("abcd")...)
				w.update(t, []byte("e"), []byte("new"), 0)
				w.compare(t, letters("abcde")...)
			}
		}
	}
}

// TestFillArray: the same of an array.
func TestFillArray(t *testing.T) {
	t.Parallel()
	var all []api.Entry
	for _, key := range []string{string(plainKey(0)), string(plainKey(1)), string(plainKey(2)), "\xff\xff\xff\xff", "\x00"} {
		for place := -1; place <= 2; place++ {
			all = append(all, entry(key, "fil", place), entry(key, "fill", place))
		}
	}
	for _, es := range lists(all, 3) {
		w := pairOf(t, arrayOf(3, 2), 4096)
		w.store(t, 0, []byte("0123456789abcdef"))
		w.fill(t, es)
		w.compare(t)
	}
}

// lists gives all lists of up to n of some entries.
func lists(of []api.Entry, n int) [][]api.Entry {
	all := [][]api.Entry{nil}
	from := 0
	for range n {
		to := len(all)
		for _, es := range all[from:to] {
			for _, e := range of {
				all = append(all, append(slices.Clone(es), e))
			}
		}
		from = to
	}
	return all
}

// walk asks things of chance.
type walk struct {
	*pair
	chance *rand.Rand
}

// key gives a key of few, so that the same come again; at times of another length.
func (w walk) key() []byte {
	n := w.plain.def.Key
	if w.chance.Intn(30) == 0 {
		n = w.chance.Intn(70)
	}
	key := make([]byte, n)
	if w.plain.isArray() && n == 4 {
		copy(key, plainKey(w.chance.Intn(w.plain.def.Entries+2)))
		return key
	}
	for range min(n, 2) {
		key[w.chance.Intn(n)] = byte(w.chance.Intn(3))
	}
	return key
}

func (w walk) value() []byte {
	n := w.plain.def.Value
	if w.chance.Intn(30) == 0 {
		n = w.chance.Intn(20)
	}
	value := make([]byte, n)
	w.chance.Read(value)
	return value
}

func (w walk) flags() uint64 {
	if w.chance.Intn(20) == 0 {
		return w.chance.Uint64()
	}
	return uint64(w.chance.Intn(4))
}

// list gives entries of which most are right.
func (w walk) list() []api.Entry {
	var es []api.Entry
	place := -1
	for range w.chance.Intn(4) {
		place += 1 + w.chance.Intn(3)
		if w.chance.Intn(20) == 0 {
			place -= 2
		}
		e := api.Entry{Key: w.key(), Value: w.value(), Place: place}
		if w.plain.isArray() && w.chance.Intn(10) > 0 {
			e.Key = plainKey(place)
		}
		es = append(es, e)
	}
	return es
}

func (w walk) step(t *testing.T) {
	t.Helper()
	switch w.chance.Intn(10) {
	case 0, 1, 2, 3:
		w.update(t, w.key(), w.value(), w.flags())
	case 4, 5:
		w.delete(t, w.key())
	case 6, 7:
		w.fill(t, w.list())
	case 8:
		b := make([]byte, 1+w.chance.Intn(8))
		w.chance.Read(b)
		w.store(t, w.chance.Intn(len(w.plain.region)-len(b)+1), b)
	case 9:
		w.lookup(t, w.key())
	}
}

// TestWalks: calls of chance in a row, of tables of all shapes and places.
func TestWalks(t *testing.T) {
	t.Parallel()
	chance := rand.New(rand.NewSource(21))
	for range 3000 {
		d := hashOf(1+chance.Intn(5), 1+chance.Intn(18), 1+chance.Intn(10))
		if chance.Intn(3) == 0 {
			d = arrayOf(d.Value, d.Entries)
		}
		size := uint64(d.Entries * plainRow(d.Value))
		first := []uint64{0, margin, 4096, api.TableAt, 1<<63 + 5, end - size + 1, end - size - margin + 1}[chance.Intn(7)]
		w := walk{pairOf(t, d, first), chance}
		for range 60 {
			w.step(t)
			w.compare(t, w.key())
		}
	}
}

// TestLongWalks: some hundred entries that come and go, with numbers that Fill took among them.
func TestLongWalks(t *testing.T) {
	t.Parallel()
	chance := rand.New(rand.NewSource(22))
	for range 20 {
		w := walk{pairOf(t, hashOf(2, 1+chance.Intn(9), 200), 1<<32), chance}
		for range 3000 {
			key := []byte{byte(chance.Intn(16)), byte(chance.Intn(16))}
			switch chance.Intn(5) {
			case 0, 1, 2:
				w.update(t, key, w.value(), 0)
			case 3:
				w.delete(t, key)
			case 4:
				w.fill(t, []api.Entry{{Key: key, Value: w.value(), Place: chance.Intn(200)}})
			}
			w.said = w.said[max(len(w.said)-20, 0):]
		}
		w.compare(t)
	}
}
