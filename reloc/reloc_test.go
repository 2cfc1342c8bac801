package reloc

import (
	"bytes"
	published "debug/elf"
	"encoding/binary"
	"fmt"
	"math"
	"math/rand"
	"slices"
	"strconv"
	"testing"

	"spindle/api"
	"spindle/elf"
)

func callOf(slot, symbol int) api.Rel {
	return api.Rel{Slot: slot, Kind: api.RelCall, Symbol: symbol}
}

func tableOf(slot, symbol int) api.Rel {
	return api.Rel{Slot: slot, Kind: api.RelTable, Symbol: symbol}
}

func list(rs ...api.Rel) []api.Rel { return rs }

// short tells the beginning of a list, as some lists are long.
func short(list any) string {
	s := fmt.Sprint(list)
	return s[:min(len(s), 300)]
}

// bytesOf gives the bytes of relocations that may be and rise.
func bytesOf(t *testing.T, rs ...api.Rel) []byte {
	t.Helper()
	b, e := Write(rs)
	if e != api.OK {
		t.Fatalf("P11.1: Write(%s) = %d, want OK", short(rs), e)
	}
	return b
}

// checkWrite holds Write against the second reading, and Read against what was written. It ends the test at the first that differs, as it is called very often.
func checkWrite(t *testing.T, rs []api.Rel) {
	b, e := Write(rs)
	want, wantE := writePlain(rs)
	if e != wantE || !bytes.Equal(b, want) {
		t.Fatalf("P11.1: Write(%s) = %x, %d, want %x, %d", short(rs), b, e, want, wantE)
	}
	if e != api.OK {
		return
	}
	if got, at, e := Read(b); !slices.Equal(got, rs) || at != 0 || e != api.OK {
		t.Fatalf("P11.3: Read of Write(%s) = %s, %d, %d", short(rs), short(got), at, e)
	}
}

// checkRead holds Read against the second reading, and Write against what was read.
func checkRead(t *testing.T, what string, b []byte) {
	rs, at, e := Read(b)
	want, wantAt, wantE := readPlain(b)
	if !slices.Equal(rs, want) || at != wantAt || e != wantE {
		t.Fatalf("P11.2: Read(%s) = %s, %d, %d, want %s, %d, %d\n%x", what, short(rs), at, e, short(want), wantAt, wantE, b)
	}
	if e != api.OK {
		return
	}
	if again, e := Write(rs); !bytes.Equal(again, b) || e != api.OK {
		t.Fatalf("P11.3: %s: Write of what Read gives = %x, %d, want %x", what, again, e, b)
	}
}

func checkRefusedWrite(t *testing.T, want api.Errno, rs ...api.Rel) {
	t.Helper()
	if b, e := Write(rs); len(b) != 0 || e != want {
		t.Errorf("P11.1: Write(%s) = %x, %d, want none, %d", short(rs), b, e, want)
	}
}

func checkRefused(t *testing.T, what string, b []byte, wantAt int, want api.Errno) {
	t.Helper()
	if rs, at, e := Read(b); len(rs) != 0 || at != wantAt || e != want {
		t.Errorf("P11.2: Read(%s) = %s, %d, %d, want none, %d, %d", what, short(rs), at, e, wantAt, want)
	}
}

// changed gives b with a number of some bytes laid at a place.
func changed(b []byte, place, width int, n uint64) []byte {
	c := bytes.Clone(b)
	for k := range width {
		c[place+k] = byte(n >> (8 * k))
	}
	return c
}

// someLists gives lists that may be and rise.
func someLists() [][]api.Rel {
	return [][]api.Rel{
		nil,
		{callOf(0, 1)}, {tableOf(0, 1)}, {callOf(65535, math.MaxUint32)}, {tableOf(65535, math.MaxUint32)},
		{callOf(0x0102, 0x01020304)}, {tableOf(0x1fff, 0x80706050)},
		{callOf(0, 7), tableOf(1, 7), callOf(2, 7), callOf(65535, 1)},
		{tableOf(31, 3), tableOf(32, 2), callOf(8191, 1), callOf(8192, 256), tableOf(32767, 65536), callOf(32768, 1<<24)},
	}
}

func TestExamplesWrite(t *testing.T) {
	for _, row := range []struct {
		rs   []api.Rel
		want string
	}{
		{nil, ""},
		{[]api.Rel{}, ""},
		{list(callOf(2, 5)), "\x10\x00\x00\x00\x00\x00\x00\x00\x0a\x00\x00\x00\x05\x00\x00\x00"},
		{
			list(tableOf(2, 258), callOf(65535, 1<<32-1)),
			"\x10\x00\x00\x00\x00\x00\x00\x00\x01\x00\x00\x00\x02\x01\x00\x00" + "\xf8\xff\x07\x00\x00\x00\x00\x00\x0a\x00\x00\x00\xff\xff\xff\xff",
		},
	} {
		if b := bytesOf(t, row.rs...); string(b) != row.want {
			t.Errorf("P11.1: Write(%v) = %x, want %x", row.rs, b, row.want)
		}
		checkWrite(t, row.rs)
	}
	checkRefusedWrite(t, api.ErrRelocOrder, callOf(2, 5), tableOf(2, 1))
	checkRefusedWrite(t, api.ErrRelocForm, callOf(65536, 1))
	checkRefusedWrite(t, api.ErrRelocForm, api.Rel{Slot: 1, Kind: 3, Symbol: 1})
	checkRefusedWrite(t, api.ErrRelocForm, tableOf(1, 0))
	checkRefusedWrite(t, api.ErrRelocForm, callOf(5, 1), api.Rel{Slot: 2, Kind: 7, Symbol: 1})
}

func TestExamplesRead(t *testing.T) {
	b := bytesOf(t, callOf(2, 5))
	if rs, at, e := Read(nil); len(rs) != 0 || at != 0 || e != api.OK {
		t.Errorf("P11.2: Read(nothing) = %v, %d, %d, want none, 0, OK", rs, at, e)
	}
	if rs, at, e := Read(b); !slices.Equal(rs, list(callOf(2, 5))) || at != 0 || e != api.OK {
		t.Errorf("P11.2: Read(%x) = %v, %d, %d", b, rs, at, e)
	}
	checkRefused(t, "15 bytes", b[:15], 0, api.ErrRelocForm)
	checkRefused(t, "15 zeros", make([]byte, 15), 0, api.ErrRelocForm)
	checkRefused(t, "17 bytes", append(bytes.Clone(b), 0), 16, api.ErrRelocForm)
	checkRefused(t, "a place of 17", changed(b, 0, 1, 0x11), 0, api.ErrRelocForm)
	checkRefused(t, "a type of 2", changed(b, 8, 1, 2), 8, api.ErrRelocForm)
	checkRefused(t, "a symbol of 0", changed(b, 12, 1, 0), 12, api.ErrRelocForm)
	checkRefused(t, "the same twice", slices.Concat(b, b), 16, api.ErrRelocOrder)
}

func TestThereAndBack(t *testing.T) {
	for _, rs := range someLists() {
		checkWrite(t, rs)
		checkRead(t, "a list", bytesOf(t, rs...))
	}
}

// TestPublishedForm: the library's reader of the published form finds the section and its relocations.
func TestPublishedForm(t *testing.T) {
	rs := list(tableOf(0, 3), callOf(2, 258), callOf(65535, math.MaxUint32))
	file, e := elf.Write([]api.Section{{Name: ".rel.text", Type: 9, Align: 8, EntSize: 16, Data: bytesOf(t, rs...)}})
	if e != api.OK {
		t.Fatal(e)
	}
	f, err := published.NewFile(bytes.NewReader(file))
	if err != nil {
		t.Fatalf("P11.1: %v", err)
	}
	got := make([]published.Rel64, len(rs))
	if err := binary.Read(f.Section(".rel.text").Open(), f.ByteOrder, got); err != nil {
		t.Fatalf("P11.1: %v", err)
	}
	for k, r := range rs {
		kind := map[int]uint32{api.RelTable: 1, api.RelCall: 10}[r.Kind]
		if got[k].Off != uint64(8*r.Slot) || published.R_SYM64(got[k].Info) != uint32(r.Symbol) || published.R_TYPE64(got[k].Info) != kind {
			t.Errorf("P11.1: the library reads %v of %v", got[k], r)
		}
	}
}

// oddNumbers gives numbers at and beside bounds, among them such as become others when they are cut or wrap round.
func oddNumbers() []int {
	ns := []int{0, math.MinInt64, math.MaxInt64, 524287, 524288, 524289, 524280, 65534, 65535, 65536, 65537}
	for k := range 63 {
		ns = append(ns, 1<<k, -1<<k, 1<<k-1, 1<<k+1, 1<<k+10, -1<<k+2)
	}
	for n := range 40 {
		ns = append(ns, n, -n, 1<<16+n, 1<<32+n, 1<<60+n, 1<<61+n, 1<<62+n, 1<<63-1-n, -1<<63+n)
	}
	return ns
}

// TestNumbers: each field with odd numbers, and each two fields so.
func TestNumbers(t *testing.T) {
	odd := oddNumbers()
	for _, r := range list(callOf(0, 1), tableOf(9, 4)) {
		for _, n := range odd {
			for _, m := range odd {
				checkWrite(t, list(api.Rel{Slot: n, Kind: r.Kind, Symbol: m}))
			}
			checkWrite(t, list(api.Rel{Slot: n, Kind: r.Kind, Symbol: r.Symbol}))
			checkWrite(t, list(api.Rel{Slot: r.Slot, Kind: n, Symbol: r.Symbol}))
			checkWrite(t, list(api.Rel{Slot: r.Slot, Kind: r.Kind, Symbol: n}))
		}
	}
}

// TestEverySlot: every slot, and those beside, with each kind, alone and behind another one.
func TestEverySlot(t *testing.T) {
	for slot := -300; slot < 65536+300; slot++ {
		for kind := range 12 {
			checkWrite(t, list(api.Rel{Slot: slot, Kind: kind, Symbol: 1}))
		}
		checkWrite(t, list(callOf(255, 1), tableOf(slot, 2)))
		checkWrite(t, list(tableOf(slot, 1), callOf(slot+1, 2), callOf(slot+2, 2)))
	}
}

// TestBounds: the numbers at which a field begins and ceases to be right.
func TestBounds(t *testing.T) {
	for _, row := range []struct {
		r  api.Rel
		ok bool
	}{
		{callOf(0, 1), true}, {callOf(-1, 1), false}, {callOf(65535, 1), true}, {callOf(65536, 1), false}, {callOf(math.MinInt64, 1), false}, {callOf(1<<61, 1), false},
		{tableOf(0, 1), true}, {tableOf(0, 0), false}, {tableOf(0, -1), false}, {tableOf(0, 1<<32-1), true}, {tableOf(0, 1<<32), false}, {tableOf(0, 1<<32+1), false},
		{api.Rel{Kind: 0, Symbol: 1}, false}, {api.Rel{Kind: 1, Symbol: 1}, true}, {api.Rel{Kind: 2, Symbol: 1}, true},
		{api.Rel{Kind: 3, Symbol: 1}, false}, {api.Rel{Kind: 10, Symbol: 1}, false}, {api.Rel{Kind: -1, Symbol: 1}, false}, {api.Rel{Kind: 1<<32 + 1, Symbol: 1}, false},
		{api.Rel{}, false},
	} {
		want := api.OK
		if !row.ok {
			want = api.ErrRelocForm
		}
		if b, e := Write(list(row.r)); e != want || (len(b) == 16) != row.ok {
			t.Errorf("P11.1: Write(%v) = %x, %d, want %d", row.r, b, e, want)
		}
	}
}

// eachList calls f with all lists of up to so many of the relocations.
func eachList(rs []api.Rel, most int, f func([]api.Rel)) {
	var grow func([]api.Rel)
	grow = func(ahead []api.Rel) {
		f(ahead)
		if len(ahead) == most {
			return
		}
		for _, r := range rs {
			grow(append(ahead[:len(ahead):len(ahead)], r))
		}
	}
	grow(nil)
}

// TestOrders: all lists of up to five of seven relocations that may be, rising or not.
func TestOrders(t *testing.T) {
	eachList(list(callOf(0, 2), tableOf(0, 1), callOf(1, 2), tableOf(31, 1), callOf(32, 9), tableOf(8192, 3), callOf(65535, 1)), 5, func(rs []api.Rel) {
		checkWrite(t, rs)
		checkRead(t, "a list", layPlain(rs...))
	})
}

// TestFirstFault: lists with several faults of form and order; the first relocation, and in it the form, decides.
func TestFirstFault(t *testing.T) {
	rs := list(callOf(0, 1), callOf(1, 1), tableOf(2, 3), callOf(2, 0), tableOf(1, 0), callOf(65536, 1), callOf(65536, 0), callOf(-1, 1), api.Rel{Slot: 1, Kind: 7, Symbol: 1}, api.Rel{Slot: 2, Kind: 9}, api.Rel{Slot: -2, Kind: 3})
	eachList(rs, 4, func(rs []api.Rel) {
		checkWrite(t, rs)
		checkRead(t, "a list with faults", layPlain(rs...))
	})
	checkRefusedWrite(t, api.ErrRelocOrder, callOf(1, 1), callOf(0, 1), callOf(0, 0))
	checkRefusedWrite(t, api.ErrRelocForm, callOf(1, 0), callOf(0, 1))
	checkRefusedWrite(t, api.ErrRelocForm, callOf(1, 1), callOf(0, 0))
	checkRefused(t, "out of order, of a wrong type", layPlain(callOf(1, 1), api.Rel{Slot: 0, Kind: 7}), 16, api.ErrRelocOrder)
	checkRefused(t, "a wrong type without a symbol", layPlain(api.Rel{Slot: 0, Kind: 7}), 8, api.ErrRelocForm)
	checkRefused(t, "out of order at no multiple of 8", changed(layPlain(callOf(1, 1), callOf(0, 1)), 16, 1, 4), 16, api.ErrRelocForm)
	checkRefused(t, "out of order, then a cut", layPlain(callOf(1, 1), callOf(0, 1), callOf(2, 1))[:40], 16, api.ErrRelocOrder)
	checkRefused(t, "a cut ahead of what would be out of order", layPlain(callOf(1, 1), callOf(0, 1))[:31], 16, api.ErrRelocForm)
	checkRefused(t, "a wrong symbol, then a cut", layPlain(callOf(1, 0), callOf(2, 1))[:20], 12, api.ErrRelocForm)
}

// TestEveryByte: each byte of some lists with each number.
func TestEveryByte(t *testing.T) {
	for _, rs := range someLists() {
		b := bytesOf(t, rs...)
		for place := range b {
			for n := range 256 {
				checkRead(t, "byte "+strconv.Itoa(place)+" as "+strconv.Itoa(n), changed(b, place, 1, uint64(n)))
			}
		}
	}
}

// TestEveryTwoBytes: each two bytes of a list turned, so that the first fault is told.
func TestEveryTwoBytes(t *testing.T) {
	b := bytesOf(t, callOf(31, 1), tableOf(32, 256), callOf(40, 1<<24))
	numbers := []uint64{0, 1, 2, 7, 8, 10, 0x28, 0x80, 0xff}
	for first := range b {
		for second := range first {
			for _, n := range numbers {
				for _, m := range numbers {
					checkRead(t, "bytes "+strconv.Itoa(second)+" and "+strconv.Itoa(first), changed(changed(b, first, 1, n), second, 1, m))
				}
			}
		}
	}
}

// TestFields: the fields with many numbers, alone and behind another relocation.
func TestFields(t *testing.T) {
	for _, rs := range [][]api.Rel{{callOf(0, 1)}, {tableOf(65535, 9)}, {callOf(4, 2), tableOf(5, 3)}} {
		b := bytesOf(t, rs...)
		last := len(b) - 16
		for _, n := range oddNumbers() {
			checkRead(t, "a place of "+strconv.Itoa(n), changed(b, last, 8, uint64(n)))
			checkRead(t, "a type of "+strconv.Itoa(n), changed(b, last+8, 4, uint64(n)))
			checkRead(t, "a symbol of "+strconv.Itoa(n), changed(b, last+12, 4, uint64(n)))
		}
		for n := range 524288 + 100 {
			c := changed(b, last, 8, uint64(n))
			ok := n%8 == 0 && n < 524288
			want := api.OK
			switch {
			case !ok:
				want = api.ErrRelocForm
			case last > 0 && n <= 32:
				want = api.ErrRelocOrder
			}
			if got, at, e := Read(c); e != want || e != api.OK && at != last || e == api.OK && got[len(got)-1].Slot != n/8 {
				t.Fatalf("P11.2: a place of %d: %v, %d, %d, want %d", n, got, at, e, want)
			}
		}
	}
	b := bytesOf(t, callOf(0, 1))
	checkRefused(t, "a place of 2^63", changed(b, 0, 8, 1<<63), 0, api.ErrRelocForm)
	checkRefused(t, "a place of 2^64 - 8", changed(b, 0, 8, 1<<64-8), 0, api.ErrRelocForm)
	checkRefused(t, "a place of 2^32", changed(b, 0, 8, 1<<32), 0, api.ErrRelocForm)
	checkRefused(t, "a place of 524288", changed(b, 0, 8, 524288), 0, api.ErrRelocForm)
}

// TestEnds: every piece that a list's bytes begin with, and bytes behind them.
func TestEnds(t *testing.T) {
	for _, rs := range someLists() {
		b := bytesOf(t, rs...)
		for end := range len(b) + 1 {
			got, at, e := Read(b[:end])
			wantAt, want := 0, api.OK
			if end%16 != 0 {
				wantAt, want = end-end%16, api.ErrRelocForm
			}
			if at != wantAt || e != want || e == api.OK && !slices.Equal(got, rs[:end/16]) || e != api.OK && len(got) != 0 {
				t.Errorf("P11.3: Read of the first %d of %d bytes = %v, %d, %d, want %d, %d", end, len(b), got, at, e, wantAt, want)
			}
		}
		for more := 1; more < 50; more++ {
			for _, n := range []byte{0, 1, 8, 10, 0xff} {
				checkRead(t, strconv.Itoa(more)+" bytes more", append(bytes.Clone(b), bytes.Repeat([]byte{n}, more)...))
			}
		}
	}
}

// TestChance: lists and bytes by a fixed row of numbers, some of them changed.
func TestChance(t *testing.T) {
	r := rand.New(rand.NewSource(11))
	for range 20000 {
		rs := chanceList(r)
		checkWrite(t, rs)
		b := layPlain(rs...)
		checkRead(t, "a list by chance", b)
		if len(b) == 0 {
			continue
		}
		place := r.Intn(len(b))
		switch r.Intn(3) {
		case 0:
			b = slices.Insert(b, place, make([]byte, r.Intn(20))...)
		case 1:
			b = slices.Delete(b, place, min(len(b), place+r.Intn(20)))
		default:
			b[place] = byte(1 << r.Intn(8))
		}
		checkRead(t, "a list changed by chance", b)
	}
}

// chanceList gives a list that nearly always rises.
func chanceList(r *rand.Rand) []api.Rel {
	var rs []api.Rel
	slot := r.Intn(3)
	for range r.Intn(9) {
		rs = append(rs, api.Rel{Slot: slot, Kind: 1 + r.Intn(2), Symbol: 1 + r.Intn(1<<32-1)})
		slot += 1 + r.Intn(1<<r.Intn(14))
		if r.Intn(30) == 0 {
			slot -= r.Intn(4)
		}
	}
	return rs
}

// TestArgumentsStay: what is handed in is as it was, its spare room too (R4).
func TestArgumentsStay(t *testing.T) {
	for _, rs := range someLists() {
		room := slices.Concat(rs, list(callOf(1, 2), tableOf(3, 4)))
		before := slices.Clone(room)
		b := bytesOf(t, room[:len(rs)]...)
		if !slices.Equal(room, before) {
			t.Errorf("R4: Write changed what it was handed: %v, %v", before, room)
		}
		c := append(bytes.Clone(b), "spare room"...)
		d := bytes.Clone(c)
		if _, _, e := Read(c[:len(b)]); e != api.OK || !bytes.Equal(c, d) {
			t.Errorf("R4: Read changed what it was handed, or answered %d", e)
		}
	}
}

// TestNewMemory: answers share nothing with answers ahead (R4).
func TestNewMemory(t *testing.T) {
	for _, rs := range someLists() {
		b := bytesOf(t, rs...)
		want := bytes.Clone(b)
		first, _, _ := Read(b)
		second, _, _ := Read(b)
		_ = append(first, callOf(9, 9))
		for k := range first {
			first[k] = callOf(9, 9)
		}
		if !slices.Equal(second, rs) {
			t.Errorf("R4: writing into Read's answer of %d relocations changed another one", len(rs))
		}
		_ = append(b, 1)
		for k := range b {
			b[k] ^= 0xff
		}
		if again := bytesOf(t, rs...); !bytes.Equal(again, want) || !slices.Equal(second, rs) {
			t.Errorf("R4: writing into Write's answer of %d relocations changed something else", len(rs))
		}
	}
}

// TestAgain: a call that is refused leaves nothing behind for the next one (R2).
func TestAgain(t *testing.T) {
	for range 3 {
		checkRefusedWrite(t, api.ErrRelocOrder, callOf(7, 1), callOf(7, 1))
		checkRefused(t, "two calls at 7", layPlain(callOf(7, 1), callOf(7, 1)), 16, api.ErrRelocOrder)
		checkWrite(t, list(callOf(0, 1), callOf(7, 1)))
		checkRead(t, "two calls", layPlain(callOf(0, 1), callOf(7, 1)))
	}
}

// TestLong: a relocation at every slot, one more than there can be, and long lists that are wrong at their beginning or end.
func TestLong(t *testing.T) {
	var rs []api.Rel
	for slot := range api.MaxSlots {
		rs = append(rs, api.Rel{Slot: slot, Kind: 1 + slot%2, Symbol: 1 + slot*65536})
	}
	checkWrite(t, rs)
	b := bytesOf(t, rs...)
	checkRead(t, "every slot", b)
	checkRefused(t, "every slot less a byte", b[:len(b)-1], len(b)-16, api.ErrRelocForm)
	checkRefused(t, "every slot and one more", append(bytes.Clone(b), layPlain(callOf(0, 1))...), len(b), api.ErrRelocOrder)
	checkRefused(t, "every slot and the next", append(bytes.Clone(b), layPlain(callOf(65536, 1))...), len(b), api.ErrRelocForm)
	checkRefused(t, "100 million zeros", make([]byte, 100_000_000), 8, api.ErrRelocForm)
	checkLongRefused(t, append(slices.Clone(rs), callOf(65535, 1)), api.ErrRelocOrder)
	checkLongRefused(t, append(slices.Clone(rs), callOf(65536, 1)), api.ErrRelocForm)
	checkLongRefused(t, slices.Repeat(list(callOf(0, 1)), 5_000_000), api.ErrRelocOrder)
	checkLongRefused(t, make([]api.Rel, 5_000_000), api.ErrRelocForm)
}

func checkLongRefused(t *testing.T, rs []api.Rel, want api.Errno) {
	t.Helper()
	if b, e := Write(rs); len(b) != 0 || e != want {
		t.Errorf("P11.1: Write of %d relocations with a fault = %d bytes, %d, want %d", len(rs), len(b), e, want)
	}
}
