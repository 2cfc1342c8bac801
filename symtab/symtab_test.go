package symtab

import (
	"bytes"
	published "debug/elf"
	"fmt"
	"math"
	"math/rand"
	"slices"
	"strconv"
	"testing"

	"spindle/api"
	"spindle/elf"
	"spindle/strs"
)

func localOf(value, size int) api.Symbol {
	return api.Symbol{Kind: 2, Section: 1, Value: value, Size: size}
}

func tableOf(value int) api.Symbol {
	return api.Symbol{Kind: 1, Section: 2, Value: value, Size: 16}
}

func globalOf(value, size int) api.Symbol {
	return api.Symbol{Binding: 1, Kind: 2, Section: 1, Value: value, Size: size}
}

func externOf(name int) api.Symbol {
	return api.Symbol{Name: name, Binding: 1}
}

func zeros(n int) string { return string(make([]byte, n)) }

func list(ss ...api.Symbol) []api.Symbol { return ss }

// short tells the beginning of a list, as some lists are long.
func short(list any) string {
	s := fmt.Sprint(list)
	return s[:min(len(s), 300)]
}

// bytesOf gives the bytes of symbols that may be and are in order.
func bytesOf(t *testing.T, ss ...api.Symbol) []byte {
	t.Helper()
	b, e := Write(ss)
	if e != api.OK {
		t.Fatalf("P10.1: Write(%s) = %d, want OK", short(ss), e)
	}
	return b
}

// checkWrite holds Write against the second reading, and Read against what was written. It ends the test at the first that differs, as it is called very often.
func checkWrite(t *testing.T, ss []api.Symbol) {
	b, e := Write(ss)
	want, wantE := writePlain(ss)
	if e != wantE || !bytes.Equal(b, want) {
		t.Fatalf("P10.1: Write(%s) = %x, %d, want %x, %d", short(ss), b, e, want, wantE)
	}
	if e != api.OK {
		return
	}
	if got, at, e := Read(b); !slices.Equal(got, ss) || at != 0 || e != api.OK {
		t.Fatalf("P10.3: Read of Write(%s) = %s, %d, %d", short(ss), short(got), at, e)
	}
}

// checkRead holds Read against the second reading, and Write against what was read.
func checkRead(t *testing.T, what string, b []byte) {
	ss, at, e := Read(b)
	want, wantAt, wantE := readPlain(b)
	if !slices.Equal(ss, want) || at != wantAt || e != wantE {
		t.Fatalf("P10.2: Read(%s) = %s, %d, %d, want %s, %d, %d\n%x", what, short(ss), at, e, short(want), wantAt, wantE, b)
	}
	if e != api.OK {
		return
	}
	if again, e := Write(ss); !bytes.Equal(again, b) || e != api.OK {
		t.Fatalf("P10.3: %s: Write of what Read gives = %x, %d, want %x", what, again, e, b)
	}
}

func checkRefusedWrite(t *testing.T, want api.Errno, ss ...api.Symbol) {
	t.Helper()
	if b, e := Write(ss); len(b) != 0 || e != want {
		t.Errorf("P10.1: Write(%v) = %x, %d, want none, %d", ss, b, e, want)
	}
}

func checkRefused(t *testing.T, what string, b []byte, wantAt int, want api.Errno) {
	t.Helper()
	if ss, at, e := Read(b); len(ss) != 0 || at != wantAt || e != want {
		t.Errorf("P10.2: Read(%s) = %v, %d, %d, want none, %d, %d", what, ss, at, e, wantAt, want)
	}
}

// changed gives b with a number of some bytes laid at a place.
func changed(b []byte, place, width int, n uint64) []byte {
	c := bytes.Clone(b)
	for k := range width {
		c[place+k] = byte(n >> (8 * k))
	}
	return c
}

// twoOfEach gives a list with two symbols of every sort.
func twoOfEach() []api.Symbol {
	ss := list(localOf(0, 8), localOf(24, 16), tableOf(0), tableOf(16), globalOf(8, 16), globalOf(40, 800), externOf(0), externOf(0))
	for k := range ss[:7] {
		ss[k].Name = 1 + 3*k
	}
	return ss
}

// someLists gives lists that may be and are in order.
func someLists() [][]api.Symbol {
	return [][]api.Symbol{
		nil,
		{localOf(0, 8)}, {tableOf(0)}, {globalOf(0, 8)}, {externOf(258)},
		twoOfEach(),
		{localOf(math.MaxInt64-7, math.MaxInt64-7), globalOf(math.MaxInt64-7, math.MaxInt64-7), externOf(math.MaxUint32)},
		{localOf(0x0102030405060708, 0x1112131415161718), externOf(0x01020304)},
		{globalOf(0x0102030405060708, 0x1112131415161718)},
	}
}

func TestExamplesWrite(t *testing.T) {
	first := localOf(0, 8)
	first.Name = 1
	for _, row := range []struct {
		ss   []api.Symbol
		want string
	}{
		{nil, zeros(24)},
		{list(externOf(258)), zeros(24) + "\x02\x01\x00\x00\x10\x00\x00\x00" + zeros(16)},
		{
			list(first, tableOf(0), globalOf(8, 24)),
			zeros(24) + "\x01\x00\x00\x00\x02\x00\x01\x00" + zeros(8) + "\x08" + zeros(7) +
				zeros(4) + "\x01\x00\x02\x00" + zeros(8) + "\x10" + zeros(7) +
				zeros(4) + "\x12\x00\x01\x00" + "\x08" + zeros(7) + "\x18" + zeros(7),
		},
		{list(externOf(0), externOf(0)), zeros(24) + zeros(4) + "\x10" + zeros(19) + zeros(4) + "\x10" + zeros(19)},
	} {
		if b := bytesOf(t, row.ss...); string(b) != row.want {
			t.Errorf("P10.1: Write(%v) = %x, want %x", row.ss, b, row.want)
		}
		checkWrite(t, row.ss)
	}
	checkRefusedWrite(t, api.ErrSymtabOrder, tableOf(16))
	checkRefusedWrite(t, api.ErrSymtabOrder, globalOf(8, 8), localOf(0, 8))
	checkRefusedWrite(t, api.ErrSymtabOrder, localOf(8, 8), localOf(8, 8))
	checkRefusedWrite(t, api.ErrSymtabForm, localOf(0, 0))
	checkRefusedWrite(t, api.ErrSymtabForm, localOf(4, 8))
	checkRefusedWrite(t, api.ErrSymtabForm, api.Symbol{Kind: 1, Section: 2, Size: 8})
	checkRefusedWrite(t, api.ErrSymtabForm, api.Symbol{Binding: 1, Section: 1})
	checkRefusedWrite(t, api.ErrSymtabForm, externOf(-1))
}

func TestExamplesRead(t *testing.T) {
	for length := range 24 {
		checkRefused(t, strconv.Itoa(length)+" zeros", make([]byte, length), length, api.ErrSymtabForm)
	}
	if ss, at, e := Read(make([]byte, 24)); len(ss) != 0 || at != 0 || e != api.OK {
		t.Errorf("P10.2: Read(24 zeros) = %v, %d, %d, want none, 0, OK", ss, at, e)
	}
	checkRefused(t, "25 zeros", make([]byte, 25), 25, api.ErrSymtabForm)
	checkRefused(t, "a 1 at 5", changed(make([]byte, 24), 5, 1, 1), 5, api.ErrSymtabForm)
	checkRefused(t, "48 zeros", make([]byte, 48), 28, api.ErrSymtabForm)
	checkRefused(t, "a table at 16", changed(bytesOf(t, tableOf(0)), 32, 1, 16), 24, api.ErrSymtabOrder)
	checkRefused(t, "a size of 0", changed(bytesOf(t, localOf(0, 8)), 40, 1, 0), 40, api.ErrSymtabForm)
}

func TestThereAndBack(t *testing.T) {
	for _, ss := range someLists() {
		checkWrite(t, ss)
		checkRead(t, "a table", bytesOf(t, ss...))
	}
}

// TestPublishedForm: the library's reader of the published form finds the same symbols.
func TestPublishedForm(t *testing.T) {
	names := strs.New()
	ss := twoOfEach()
	for k := range ss {
		place, e := names.Add("n" + strconv.Itoa(k))
		if e != api.OK {
			t.Fatal(e)
		}
		ss[k].Name = place
	}
	text, _ := names.Bytes()
	file, e := elf.Write([]api.Section{
		{Name: ".text", Type: 1}, {Name: ".maps", Type: 1},
		{Name: ".symtab", Type: 2, Link: 4, Info: 5, Align: 8, EntSize: 24, Data: bytesOf(t, ss...)},
		{Name: ".strtab", Type: 3, Align: 1, Data: text},
	})
	if e != api.OK {
		t.Fatal(e)
	}
	f, err := published.NewFile(bytes.NewReader(file))
	if err != nil {
		t.Fatalf("P10.1: %v", err)
	}
	got, err := f.Symbols()
	if err != nil || len(got) != len(ss) {
		t.Fatalf("P10.1: the library reads %d symbols, %v, want %d", len(got), err, len(ss))
	}
	for k, s := range ss {
		want := published.Symbol{
			Name: "n" + strconv.Itoa(k), Info: published.ST_INFO(published.SymBind(s.Binding), published.SymType(s.Kind)),
			Section: published.SectionIndex(s.Section), Value: uint64(s.Value), Size: uint64(s.Size),
		}
		if got[k] != want {
			t.Errorf("P10.1: the library reads %v, want %v", got[k], want)
		}
	}
}

// fieldsOf gives what each field of a symbol is.
func fieldsOf(s *api.Symbol) []*int {
	return []*int{&s.Name, &s.Binding, &s.Kind, &s.Section, &s.Value, &s.Size}
}

// oddNumbers gives numbers at and beside bounds, among them such as become others when they are cut or wrap round.
func oddNumbers() []int {
	ns := []int{0, math.MinInt64, math.MaxInt64, math.MaxInt64 - 7, math.MaxInt64 - 15, -14, -15, 24, 40, 48, 800, 255, 65535, 65537, 65538, 1<<32 + 1, 1<<32 - 8}
	for k := range 63 {
		ns = append(ns, 1<<k, -1<<k, 1<<k-1)
	}
	for n := range 40 {
		ns = append(ns, n, -n, 1<<32+n, 1<<60+n, 1<<63-1-n, -1<<63+n)
	}
	return ns
}

// TestNumbers: each field of each sort with odd numbers, and each two fields so.
func TestNumbers(t *testing.T) {
	odd := oddNumbers()
	few := []int{math.MinInt64, -1 << 60, -16, -8, -1, 0, 1, 2, 3, 8, 12, 16, 18, 32, 257, 65536, 65537, 1 << 31, 1<<32 - 1, 1 << 32, 1 << 60, math.MaxInt64 - 7, math.MaxInt64}
	for _, s := range list(localOf(0, 8), localOf(16, 24), tableOf(0), globalOf(0, 8), globalOf(8, 16), externOf(7)) {
		for first := range fieldsOf(&s) {
			for _, n := range odd {
				one := s
				*fieldsOf(&one)[first] = n
				checkWrite(t, list(one))
			}
			for second := range first {
				for _, n := range few {
					for _, m := range few {
						two := s
						*fieldsOf(&two)[first], *fieldsOf(&two)[second] = n, m
						checkWrite(t, list(two))
					}
				}
			}
		}
	}
}

// TestBounds: the numbers at which a field begins and ceases to be right.
func TestBounds(t *testing.T) {
	type row struct {
		s  api.Symbol
		ok bool
	}
	named := func(s api.Symbol, name int) api.Symbol {
		s.Name = name
		return s
	}
	for _, r := range []row{
		{named(localOf(0, 8), 1<<32-1), true}, {named(localOf(0, 8), 1<<32), false}, {named(tableOf(0), -1), false},
		{localOf(8, 8), true}, {localOf(7, 8), false}, {localOf(-8, 8), false}, {localOf(math.MaxInt64-7, 8), true},
		{localOf(0, -8), false}, {localOf(0, 7), false}, {localOf(0, 9), false}, {localOf(0, math.MaxInt64-7), true},
		{globalOf(8, 8), true}, {globalOf(7, 8), false}, {globalOf(-8, 8), false}, {globalOf(0, 0), false}, {globalOf(0, -8), false}, {globalOf(0, 12), false},
		{api.Symbol{Binding: 1 << 60, Kind: 2, Section: 1, Size: 8}, false},
		{api.Symbol{Binding: 0, Kind: 18, Section: 1, Size: 8}, false},
		{api.Symbol{Binding: 1, Kind: -14, Section: 1, Size: 8}, false},
		{api.Symbol{Binding: -1, Kind: 32}, false},
		{api.Symbol{Binding: 1, Kind: 1, Section: 2, Size: 16}, false},
		{api.Symbol{Kind: 1, Section: 2, Size: 15}, false}, {api.Symbol{Kind: 1, Section: 2, Size: 17}, false}, {api.Symbol{Kind: 1, Section: 1, Size: 16}, false},
		{api.Symbol{Kind: 2, Section: 2, Size: 16}, false}, {api.Symbol{}, false},
		{api.Symbol{Binding: 1, Value: 8}, false}, {api.Symbol{Binding: 1, Size: 8}, false}, {api.Symbol{Binding: 1, Section: 65536}, false},
	} {
		want := api.OK
		if !r.ok {
			want = api.ErrSymtabForm
		}
		if b, e := Write(list(r.s)); e != want || (len(b) == 48) != r.ok {
			t.Errorf("P10.1: Write(%v) = %x, %d, want %d", r.s, b, e, want)
		}
	}
	// A value that is no multiple is a wrong form, ahead of a wrong order.
	checkRefusedWrite(t, api.ErrSymtabForm, tableOf(8))
	checkRefusedWrite(t, api.ErrSymtabForm, tableOf(-16))
	checkRefusedWrite(t, api.ErrSymtabForm, globalOf(0, 8), localOf(4, 8))
}

// TestBindingsAndKinds: each two numbers, though many make one and the same byte.
func TestBindingsAndKinds(t *testing.T) {
	for binding := -40; binding < 300; binding++ {
		for kind := -40; kind < 300; kind++ {
			for _, s := range list(localOf(0, 16), tableOf(0), externOf(0)) {
				s.Binding, s.Kind = binding, kind
				checkWrite(t, list(s))
			}
		}
	}
}

// someSymbols gives symbols that may be and of which lists in and out of order can be made.
func someSymbols() []api.Symbol {
	return list(localOf(0, 8), localOf(8, 24), localOf(16, 8), tableOf(0), tableOf(16), tableOf(32), globalOf(0, 8), globalOf(8, 8), externOf(3))
}

// eachList calls f with all lists of up to so many of the symbols.
func eachList(ss []api.Symbol, most int, f func([]api.Symbol)) {
	var grow func([]api.Symbol)
	grow = func(ahead []api.Symbol) {
		f(ahead)
		if len(ahead) == most {
			return
		}
		for _, s := range ss {
			grow(append(ahead[:len(ahead):len(ahead)], s))
		}
	}
	grow(nil)
}

// TestOrders: all lists of up to five of nine symbols that may be, in order or not, written, and read where they are laid by hand.
func TestOrders(t *testing.T) {
	eachList(someSymbols(), 5, func(ss []api.Symbol) {
		checkWrite(t, ss)
		if len(ss) < 5 {
			checkRead(t, "a list", layPlain(ss...))
		}
	})
}

// TestFirstFault: lists with several faults of form and order; the first symbol, and in it the form, decides.
func TestFirstFault(t *testing.T) {
	ss := list(localOf(0, 8), localOf(8, 8), tableOf(0), tableOf(16), globalOf(8, 8), externOf(0), localOf(0, 4), tableOf(17), globalOf(2, 8), api.Symbol{Binding: 1, Size: 8}, api.Symbol{})
	eachList(ss, 4, func(ss []api.Symbol) {
		checkWrite(t, ss)
		checkRead(t, "a list with faults", layPlain(ss...))
	})
	checkRefusedWrite(t, api.ErrSymtabOrder, tableOf(16), localOf(0, 0))
	checkRefusedWrite(t, api.ErrSymtabForm, localOf(0, 0), tableOf(16))
	checkRefusedWrite(t, api.ErrSymtabForm, externOf(0), localOf(0, 0))
	b := layPlain(externOf(0), localOf(0, 0))
	checkRefused(t, "a wrong form that is out of order too", b, 48+16, api.ErrSymtabForm)
	checkRefused(t, "out of order, then a cut", layPlain(externOf(0), localOf(0, 8), externOf(0))[:80], 48, api.ErrSymtabOrder)
	checkRefused(t, "a cut ahead of what would be out of order", layPlain(externOf(0), localOf(0, 8))[:71], 71, api.ErrSymtabForm)
	checkRefused(t, "a cut first entry with a 1", changed(make([]byte, 23), 2, 1, 1), 23, api.ErrSymtabForm)
	checkRefused(t, "a wrong first entry, then a cut", changed(make([]byte, 30), 23, 1, 1), 23, api.ErrSymtabForm)
}

// TestEveryByte: each byte of a table with each number.
func TestEveryByte(t *testing.T) {
	for _, ss := range [][]api.Symbol{nil, twoOfEach(), {localOf(8, 16), tableOf(0), globalOf(8, 16), externOf(1)}} {
		b := bytesOf(t, ss...)
		for place := range b {
			for n := range 256 {
				checkRead(t, "byte "+strconv.Itoa(place)+" as "+strconv.Itoa(n), changed(b, place, 1, uint64(n)))
			}
		}
	}
}

// TestEveryTwoBytes: each two bytes of a table turned, so that the first fault is told.
func TestEveryTwoBytes(t *testing.T) {
	b := bytesOf(t, localOf(8, 16), tableOf(0), globalOf(8, 16), externOf(1))
	for first := range b {
		for second := range first {
			for _, n := range []uint64{0, 1, 2, 8, 0x10, 0x12, 0x80} {
				for _, m := range []uint64{1, 8, 0x10, 0x80} {
					checkRead(t, "bytes "+strconv.Itoa(second)+" and "+strconv.Itoa(first), changed(changed(b, first, 1, n), second, 1, m))
				}
			}
		}
	}
}

// TestFields: the fields of two and eight bytes of each sort with many numbers.
func TestFields(t *testing.T) {
	for k, s := range list(localOf(0, 8), tableOf(0), globalOf(8, 16), externOf(9)) {
		b := bytesOf(t, s)
		for section := range 1 << 16 {
			c := changed(b, 30, 2, uint64(section))
			want := []int{1, 2, 1, 0}[k]
			if _, at, e := Read(c); (e == api.OK) != (section == want) || e != api.OK && (at != 30 || e != api.ErrSymtabForm) {
				t.Fatalf("P10.2: sort %d with section %d: %d, %d", k+1, section, at, e)
			}
		}
		for _, place := range []int{24, 32, 40} {
			for _, n := range oddNumbers() {
				c := changed(b, place, 8, uint64(n))
				if place == 24 {
					c = changed(b, place, 4, uint64(n))
				}
				checkRead(t, "a field at "+strconv.Itoa(place), c)
			}
		}
		checkRefused(t, "a value of 2^63", changed(b, 32, 8, 1<<63), 32, api.ErrSymtabForm)
		checkRefused(t, "a size of 2^63", changed(b, 40, 8, 1<<63), 40, api.ErrSymtabForm)
	}
}

// TestSortBytes: every fifth byte, with fields that are right for one of the sorts.
func TestSortBytes(t *testing.T) {
	for _, s := range list(localOf(0, 16), tableOf(0), globalOf(0, 16), externOf(0)) {
		for n := range 256 {
			c := changed(bytesOf(t, s), 28, 1, uint64(n))
			checkRead(t, "a fifth byte of "+strconv.Itoa(n), c)
			if n != 0x01 && n != 0x02 && n != 0x10 && n != 0x12 {
				checkRefused(t, "a fifth byte of "+strconv.Itoa(n), changed(c, 29, 1, 1), 28, api.ErrSymtabForm)
			}
		}
	}
}

// TestEnds: every piece that a table begins with, and bytes behind it.
func TestEnds(t *testing.T) {
	for _, ss := range someLists() {
		b := bytesOf(t, ss...)
		for end := range b {
			checkRead(t, "a table's first "+strconv.Itoa(end), b[:end])
			if end%24 != 0 {
				checkRefused(t, "a table's first "+strconv.Itoa(end), b[:end], end, api.ErrSymtabForm)
			}
		}
		for more := 1; more < 80; more++ {
			for _, n := range []byte{0, 1, 2, 0x10, 0xff} {
				checkRead(t, strconv.Itoa(more)+" bytes more", append(bytes.Clone(b), bytes.Repeat([]byte{n}, more)...))
			}
		}
	}
}

// TestChance: lists and bytes by a fixed row of numbers, some of them changed.
func TestChance(t *testing.T) {
	r := rand.New(rand.NewSource(10))
	for range 6000 {
		ss := chanceList(r)
		checkWrite(t, ss)
		b := layPlain(ss...)
		checkRead(t, "a list by chance", b)
		place := r.Intn(len(b))
		switch r.Intn(3) {
		case 0:
			b = slices.Insert(b, place, make([]byte, r.Intn(30))...)
		case 1:
			b = slices.Delete(b, place, min(len(b), place+r.Intn(30)))
		default:
			b[place] = byte(1 << r.Intn(8))
		}
		checkRead(t, "a table changed by chance", b)
	}
}

// chanceList gives a list that is nearly always in order.
func chanceList(r *rand.Rand) []api.Symbol {
	var ss []api.Symbol
	next := 0
	grown := func() int {
		next += 8 * (r.Intn(4) + 1)
		if r.Intn(20) == 0 {
			next -= 8 * r.Intn(4)
		}
		return next
	}
	for range r.Intn(4) {
		ss = append(ss, localOf(grown(), 8+8*r.Intn(5)))
	}
	for k := range r.Intn(4) {
		ss = append(ss, tableOf(16*k))
	}
	next = 0
	for range r.Intn(4) {
		ss = append(ss, globalOf(grown(), 8+8*r.Intn(5)))
	}
	for range r.Intn(4) {
		ss = append(ss, externOf(0))
	}
	for k := range ss {
		ss[k].Name = r.Intn(1 << 32)
	}
	if len(ss) > 1 && r.Intn(4) == 0 {
		k := r.Intn(len(ss) - 1)
		ss[k], ss[k+1] = ss[k+1], ss[k]
	}
	return ss
}

// TestArgumentsStay: what is handed in is as it was, its spare room too (R4).
func TestArgumentsStay(t *testing.T) {
	for _, ss := range someLists() {
		room := slices.Concat(ss, list(localOf(1, 2), externOf(3)))
		before := slices.Clone(room)
		b := bytesOf(t, room[:len(ss)]...)
		if !slices.Equal(room, before) {
			t.Errorf("R4: Write changed what it was handed: %v, %v", before, room)
		}
		c := append(bytes.Clone(b), "spare room"...)
		d := bytes.Clone(c)
		if _, _, e := Read(c[:len(b)]); e != api.OK || !bytes.Equal(c, d) {
			t.Errorf("R4: Read changed what it was handed, or answered %d", e)
		}
	}
}

// TestNewMemory: answers share nothing with answers ahead (R4).
func TestNewMemory(t *testing.T) {
	for _, ss := range someLists() {
		b := bytesOf(t, ss...)
		want := bytes.Clone(b)
		first, _, _ := Read(b)
		second, _, _ := Read(b)
		_ = append(first, externOf(99))
		for k := range first {
			first[k] = externOf(99)
		}
		if !slices.Equal(second, ss) {
			t.Errorf("R4: writing into Read's answer of %d symbols changed another one", len(ss))
		}
		_ = append(b, 1)
		for k := range b {
			b[k] ^= 0xff
		}
		if again := bytesOf(t, ss...); !bytes.Equal(again, want) || !slices.Equal(second, ss) {
			t.Errorf("R4: writing into Write's answer of %d symbols changed something else", len(ss))
		}
	}
}

// TestAgain: a call that is refused leaves nothing behind for the next one (R2).
func TestAgain(t *testing.T) {
	for range 3 {
		checkRefusedWrite(t, api.ErrSymtabOrder, tableOf(0), tableOf(0))
		checkRefused(t, "two tables at 0", layPlain(tableOf(0), tableOf(0)), 48, api.ErrSymtabOrder)
		checkWrite(t, list(tableOf(0), tableOf(16)))
		checkRead(t, "two tables", layPlain(tableOf(0), tableOf(16)))
	}
}

// TestLong: lists of two million symbols, with a fault at the end or with none.
func TestLong(t *testing.T) {
	const each = 500_000
	var ss []api.Symbol
	for k := range each {
		ss = append(ss, localOf(16*k, 8))
	}
	for k := range each {
		ss = append(ss, tableOf(16*k))
	}
	for k := range each {
		ss = append(ss, globalOf(16*k+8, 8))
	}
	for k := range each {
		ss = append(ss, externOf(k))
	}
	b := bytesOf(t, ss...)
	if want := layPlain(ss...); !bytes.Equal(b, want) {
		t.Error("P10.1: the bytes of a long list are others")
	}
	if got, at, e := Read(b); !slices.Equal(got, ss) || at != 0 || e != api.OK {
		t.Errorf("P10.3: Read of a long list: %d symbols, %d, %d", len(got), at, e)
	}
	checkRefused(t, "a long list less a byte", b[:len(b)-1], len(b)-1, api.ErrSymtabForm)
	checkRefused(t, "a long list and a table", append(b, layPlain(tableOf(16 * each))[24:]...), len(b), api.ErrSymtabOrder)
	ss = append(ss, tableOf(16*each))
	checkRefusedEnd(t, ss, api.ErrSymtabOrder)
	ss[len(ss)-1] = localOf(0, 0)
	checkRefusedEnd(t, ss, api.ErrSymtabForm)
}

func checkRefusedEnd(t *testing.T, ss []api.Symbol, want api.Errno) {
	t.Helper()
	if b, e := Write(ss); len(b) != 0 || e != want {
		t.Errorf("P10.1: Write of %d symbols with a fault at the end = %d bytes, %d, want %d", len(ss), len(b), e, want)
	}
}
