package image

import (
	"bytes"
	"fmt"
	"math"
	"slices"
	"strconv"
	"strings"
	"testing"

	"spindle/api"
)

// short tells the beginning of an image, as some are long.
func short(what any) string {
	s := fmt.Sprintf("%+v", what)
	return s[:min(len(s), 300)]
}

func shortBytes(b []byte) string {
	return fmt.Sprintf("%x (%d)", b[:min(len(b), 200)], len(b))
}

func exit() api.Insn         { return api.Insn{Op: 0x95} }
func lddw(imm int) api.Insn  { return api.Insn{Op: 0x18, Imm: imm} }
func exits(n int) []api.Insn { return slices.Repeat([]api.Insn{exit()}, n) }
func wides(n int) []api.Insn { return slices.Repeat([]api.Insn{lddw(-5)}, n) }

// one gives the image of one exit.
func one() api.Image {
	return api.Image{Text: exits(1), Funcs: []api.ImgFunc{{Name: "f", Count: 1}}}
}

// turned gives the image of one exit with something done to it.
func turned(do func(im *api.Image)) api.Image {
	im := one()
	do(&im)
	return im
}

func array(name string, value, entries int) api.TableDef {
	return api.TableDef{Name: name, Kind: api.TableArray, Key: 4, Value: value, Entries: entries}
}

func hash(name string, key, value, entries int) api.TableDef {
	return api.TableDef{Name: name, Kind: api.TableHash, Key: key, Value: value, Entries: entries}
}

// withTables gives the image of one exit with tables.
func withTables(ts ...api.TableDef) api.Image {
	return turned(func(im *api.Image) { im.Tables = ts })
}

// cut gives an image of a text that is cut into functions f0, f1 and so on, of so many instructions each.
func cut(text []api.Insn, counts ...int) api.Image {
	im := api.Image{Text: text}
	first := 0
	for k, count := range counts {
		im.Funcs = append(im.Funcs, api.ImgFunc{Name: "f" + strconv.Itoa(k), First: first, Count: count})
		first += count
	}
	return im
}

// whole gives an image that has everything.
func whole() api.Image {
	return api.Image{
		Text: []api.Insn{
			{Op: 0xb7, Dst: 1, Imm: -1}, {Op: 0x18, Dst: 3, Src: 0, Imm: 0x123456789abcdef0}, exit(),
			{Op: 0x79, Dst: 2, Src: 1, Off: -8}, {Op: 0x18, Dst: 15, Src: 15, Off: -32768, Imm: math.MinInt64},
			{Op: 0, Dst: 0, Src: 0}, {Op: 0, Dst: 0, Src: 0, Imm: 7}, {Op: 255, Dst: 10, Src: 11, Off: 32767, Imm: math.MinInt32}, {Op: 0x18, Imm: -2},
		},
		Funcs: []api.ImgFunc{
			{Name: "f", Object: 0, First: 0, Count: 3}, {Name: "b", Object: 63, First: 3, Count: 2},
			{Name: "f", Object: 1, First: 5, Count: 1}, {Name: "_.$9", Object: 1, First: 6, Count: 3},
		},
		Tables: []api.TableDef{hash("a", 9, 10, 11), array("b", 4096, 12), hash("c", 1, 1, 1)},
		Entry:  2,
	}
}

// wholeBytes gives the bytes of whole, put down by hand.
func wholeBytes() []byte {
	return []byte("" +
		"SPIN\x01\x00\x00\x00\x0c\x00\x00\x00\x04\x00\x00\x00\x03\x00\x00\x00\x0e\x00\x00\x00\x02\x00\x00\x00" +
		"\xb7\x01\x00\x00\xff\xff\xff\xff" +
		"\x18\x03\x00\x00\xf0\xde\xbc\x9a\x00\x00\x00\x00\x78\x56\x34\x12" +
		"\x95\x00\x00\x00\x00\x00\x00\x00" +
		"\x79\x12\xf8\xff\x00\x00\x00\x00" +
		"\x18\xff\x00\x80\x00\x00\x00\x00\x00\x00\x00\x00\x00\x00\x00\x80" +
		"\x00\x00\x00\x00\x00\x00\x00\x00" +
		"\x00\x00\x00\x00\x07\x00\x00\x00" +
		"\xff\xba\xff\x7f\x00\x00\x00\x80" +
		"\x18\x00\x00\x00\xfe\xff\xff\xff\x00\x00\x00\x00\xff\xff\xff\xff" +
		"\x01\x00\x00\x00\x00\x00\x00\x00\x00\x00\x00\x00\x04\x00\x00\x00" +
		"\x03\x00\x00\x00\x3f\x00\x00\x00\x04\x00\x00\x00\x03\x00\x00\x00" +
		"\x01\x00\x00\x00\x01\x00\x00\x00\x07\x00\x00\x00\x01\x00\x00\x00" +
		"\x05\x00\x00\x00\x01\x00\x00\x00\x08\x00\x00\x00\x04\x00\x00\x00" +
		"\x0a\x00\x00\x00\x02\x00\x00\x00\x09\x00\x00\x00\x0a\x00\x00\x00\x0b\x00\x00\x00" +
		"\x03\x00\x00\x00\x01\x00\x00\x00\x04\x00\x00\x00\x00\x10\x00\x00\x0c\x00\x00\x00" +
		"\x0c\x00\x00\x00\x02\x00\x00\x00\x01\x00\x00\x00\x01\x00\x00\x00\x01\x00\x00\x00" +
		"\x00f\x00b\x00_.$9\x00a\x00c\x00")
}

// want asks for Check's answer, and holds Write and Read to it.
func want(t *testing.T, what string, im api.Image, wantK int, wantE api.Errno) {
	t.Helper()
	if k, e := checkImage(t, im); k != wantK || e != wantE {
		t.Errorf("P17.1: Check(%s: %s) = %d, %d, want %d, %d", what, short(im), k, e, wantK, wantE)
	}
}

// wantRead asks for Read's answer but for the image.
func wantRead(t *testing.T, what string, b []byte, wantAt int, wantE api.Errno) {
	t.Helper()
	if at, e := checkBytes(t, what, b); at != wantAt || e != wantE {
		t.Errorf("P17.3: Read(%s) = %d, %d, want %d, %d", what, at, e, wantAt, wantE)
	}
}

// oneBytes gives the bytes of the image of one exit, put down by hand.
func oneBytes() []byte {
	return []byte("SPIN\x01\x00\x00\x00\x01\x00\x00\x00\x01\x00\x00\x00\x00\x00\x00\x00\x03\x00\x00\x00\x00\x00\x00\x00" +
		"\x95\x00\x00\x00\x00\x00\x00\x00" + "\x01\x00\x00\x00\x00\x00\x00\x00\x00\x00\x00\x00\x01\x00\x00\x00" + "\x00f\x00")
}

// changed gives b with a number of four bytes laid at a place.
func changed(b []byte, place, n int) []byte {
	c := bytes.Clone(b)
	for k := range 4 {
		c[place+k] = byte(n >> (8 * k))
	}
	return c
}

// put gives b with one byte laid at a place.
func put(b []byte, place int, n byte) []byte {
	c := bytes.Clone(b)
	c[place] = n
	return c
}

func TestExamplesCheck(t *testing.T) {
	twice := func(object int) api.Image {
		return turned(func(im *api.Image) {
			im.Text = exits(2)
			im.Funcs = append(im.Funcs, api.ImgFunc{Name: "f", Object: object, First: 1, Count: 1})
		})
	}
	want(t, "nothing", api.Image{}, 0, api.ErrImageEntry)
	want(t, "exit", one(), 0, api.OK)
	want(t, "entry 1", turned(func(im *api.Image) { im.Entry = 1 }), 0, api.ErrImageEntry)
	want(t, "f, 0 twice", twice(0), 1, api.ErrImageName)
	want(t, "f, 0 and f, 1", twice(1), 0, api.OK)
	want(t, "Count 2", turned(func(im *api.Image) { im.Funcs[0].Count = 2 }), 0, api.ErrImageFunc)
	want(t, "First 1", turned(func(im *api.Image) { im.Funcs[0].First = 1 }), 0, api.ErrImageFunc)
	want(t, "another exit", turned(func(im *api.Image) { im.Text = exits(2) }), 1, api.ErrImageFunc)
	want(t, "Dst 16", turned(func(im *api.Image) { im.Text[0].Dst = 16 }), 0, api.ErrImageInsn)
	want(t, "b and a", withTables(array("b", 1, 1), array("a", 1, 1)), 2, api.ErrImageName)
	want(t, "Key 0", withTables(api.TableDef{Name: "a", Kind: api.TableArray, Value: 1, Entries: 1}), 0, api.ErrImageTable)
}

func TestExamplesBytes(t *testing.T) {
	b, k, e := Write(one())
	if !bytes.Equal(b, oneBytes()) || len(b) != 55 || k != 0 || e != api.OK {
		t.Fatalf("P17.2: Write(exit) = %x, %d, %d", b, k, e)
	}
	wantRead(t, "nothing", nil, 0, api.ErrImageForm)
	wantRead(t, "without the last", b[:54], 8, api.ErrImageForm)
	wantRead(t, "2 at 4", put(b, 4, 2), 4, api.ErrImageForm)
	wantRead(t, "2 at 8", put(b, 8, 2), 8, api.ErrImageForm)
	wantRead(t, "0x18 at 28", put(b, 28, 0x18), 28, api.ErrImageForm)
	wantRead(t, "2 at 36", put(b, 36, 2), 36, api.ErrImageForm)
	wantRead(t, "0 at 48", put(b, 48, 0), 48, api.ErrImageForm)
	wantRead(t, "64 at 40", put(b, 40, 64), 0, api.ErrImageName)
	wantRead(t, "0 at 53", put(b, 53, 0), 53, api.ErrImageForm)
}

func TestWhole(t *testing.T) {
	want(t, "whole", whole(), 0, api.OK)
	if b, k, e := Write(whole()); !bytes.Equal(b, wholeBytes()) || k != 0 || e != api.OK {
		t.Errorf("P17.2: Write(whole) = %x, %d, %d, want %x", b, k, e, wholeBytes())
	}
	if im, at, e := Read(wholeBytes()); !same(im, whole()) || at != 0 || e != api.OK {
		t.Errorf("P17.3: Read(whole) = %+v, %d, %d", im, at, e)
	}
}

// names gives texts, and whether they are names.
func names() map[string]bool {
	texts := map[string]bool{
		"": false, "f": true, "_": true, "Z": true, strings.Repeat("x", 64): true, strings.Repeat("x", 65): false, strings.Repeat("é", 32): false,
		"a b": false, "a\n": false, "r1": true, "é": false, "aé": false, "a\xff": false, "a\x00": false, "a.": true, "a$": true, "a-": false, "9": false,
	}
	for c := range 256 {
		inside := c == '_' || c == '.' || c == '$' || '0' <= c && c <= '9' || 'a' <= c && c <= 'z' || 'A' <= c && c <= 'Z'
		texts[string([]byte{byte(c)})] = inside && c != '.' && c != '$' && !('0' <= c && c <= '9')
		texts[string([]byte{'q', byte(c)})] = inside
		texts[string([]byte{'q', byte(c), 'q'})] = inside
		texts[string([]byte{byte(c), 'q'})] = inside && c != '.' && c != '$' && !('0' <= c && c <= '9')
	}
	return texts
}

func TestNames(t *testing.T) {
	for name, is := range names() {
		e, k := api.OK, 0
		if !is {
			e = api.ErrImageName
		}
		want(t, "a function", turned(func(im *api.Image) { im.Funcs[0].Name = name }), 0, e)
		if !is {
			k = 2
		}
		im := cut(exits(2), 1, 1)
		im.Tables = []api.TableDef{array(name, 1, 1)}
		want(t, "a table", im, k, e)
		im = cut(exits(3), 1, 1, 1)
		im.Funcs[2].Name = name
		want(t, "the third function", im, k, e)
	}
}

func TestObjects(t *testing.T) {
	for n, is := range map[int]bool{0: true, 1: true, 62: true, 63: true, 64: false, -1: false, 65: false, 256: false, 1 << 32: false, math.MaxInt: false, math.MinInt: false} {
		im := cut(exits(2), 1, 1)
		im.Funcs[1].Object = n
		if is {
			want(t, "an object", im, 0, api.OK)
		} else {
			want(t, "an object", im, 1, api.ErrImageName)
		}
	}
}

// TestTwice: one name and one object, not side by side; one name of several objects, and several names of one.
func TestTwice(t *testing.T) {
	im := cut(exits(5), 1, 1, 1, 1, 1)
	im.Funcs[3].Name = "f1"
	want(t, "f1 twice", im, 3, api.ErrImageName)
	im.Funcs[4].Name = "f0"
	want(t, "f1 twice, then f0", im, 3, api.ErrImageName)
	im.Funcs[3].Object = 7
	want(t, "f0 twice", im, 4, api.ErrImageName)
	im.Funcs[4].Object = 7
	want(t, "f0 and f1 of 0 and 7", im, 0, api.OK)
	im.Tables = []api.TableDef{array("f0", 1, 1), array("f1", 1, 1)}
	want(t, "tables called as functions are", im, 0, api.OK)
}

func TestTableOrder(t *testing.T) {
	want(t, "rising", withTables(array("A", 1, 1), array("Z", 1, 1), array("_", 1, 1), array("a", 1, 1), array("a$", 1, 1), array("a.", 1, 1), array("a0", 1, 1), array("aa", 1, 1)), 0, api.OK)
	want(t, "twice", withTables(array("a", 1, 1), array("b", 1, 1), array("b", 2, 1)), 3, api.ErrImageName)
	want(t, "falling", withTables(array("a", 1, 1), array("c", 1, 1), array("b", 1, 1), array("", 1, 1)), 3, api.ErrImageName)
	want(t, "a ahead of Z", withTables(array("a", 1, 1), array("Z", 1, 1)), 2, api.ErrImageName)
	want(t, "a longer one ahead", withTables(array("ab", 1, 1), array("a", 1, 1)), 2, api.ErrImageName)
	want(t, "a function behind in order", withTables(array("g", 1, 1), array("f", 1, 1)), 2, api.ErrImageName)
}

func TestFuncs(t *testing.T) {
	for _, first := range []int{math.MinInt, -1 << 32, -2, -1, 0, 1, 2, 3, 4, 5, 6, 1 << 32, math.MaxInt} {
		for _, count := range []int{math.MinInt, -1 << 32, -2, -1, 0, 1, 2, 3, 4, 5, 6, 1<<32 + 1, math.MaxInt - 2, math.MaxInt} {
			for k := range 3 {
				im := cut(slices.Concat(exits(2), wides(1), exits(2)), 2, 2, 1)
				im.Funcs[k].First, im.Funcs[k].Count = first, count
				checkImage(t, im)
			}
		}
	}
	want(t, "too many of the second", cut(exits(4), 1, 4), 1, api.ErrImageFunc)
	want(t, "an empty one", cut(exits(3), 1, 0, 2), 1, api.ErrImageFunc)
	want(t, "an empty one at the end", cut(exits(3), 3, 0), 1, api.ErrImageFunc)
	want(t, "one below 0", cut(exits(3), 2, -1, 2), 1, api.ErrImageFunc)
	want(t, "one behind all", cut(exits(3), 1, 2, 1), 2, api.ErrImageFunc)
	want(t, "some left", cut(exits(3), 1, 1), 2, api.ErrImageFunc)
	want(t, "no function", api.Image{Text: exits(1)}, 0, api.ErrImageFunc)
	want(t, "functions of nothing", api.Image{Funcs: []api.ImgFunc{{Name: "f"}}}, 0, api.ErrImageFunc)
	want(t, "wide ones", cut(wides(3), 1, 2), 0, api.OK)
	want(t, "wide ones counted in slots", cut(wides(3), 2, 4), 1, api.ErrImageFunc)
}

// TestSums: Counts whose sum wraps round to what fits.
func TestSums(t *testing.T) {
	im := cut(exits(2), 1, 1)
	im.Funcs[0].Count = math.MaxInt
	im.Funcs = append(im.Funcs, api.ImgFunc{Name: "g", First: math.MinInt, Count: math.MinInt + 2})
	want(t, "a sum that wraps round", im, 0, api.ErrImageFunc)
	im = cut(exits(2), 1, math.MaxInt, 2)
	want(t, "a sum that wraps round behind", im, 1, api.ErrImageFunc)
}

func TestTables(t *testing.T) {
	odd := []int{math.MinInt, -1 << 32, -8, -1, 0, 1, 3, 4, 5, 7, 8, 9, 63, 64, 65, 248, 249, 4095, 4096, 4097, 65535, 65536, 65537, 1<<32 + 4, math.MaxInt}
	for _, d := range []api.TableDef{array("t", 1, 1), hash("t", 1, 1, 1), hash("t", 4, 8, 3), hash("t", 64, 184, 65536), hash("t", 64, 4096, 4000), array("t", 240, 65536)} {
		for kind := -1; kind < 5; kind++ {
			d.Kind = kind
			for _, n := range odd {
				for _, m := range odd {
					for _, turn := range []func(*api.TableDef){
						func(d *api.TableDef) { d.Key, d.Value = n, m },
						func(d *api.TableDef) { d.Key, d.Entries = n, m },
						func(d *api.TableDef) { d.Value, d.Entries = n, m },
					} {
						turnedTable := d
						turn(&turnedTable)
						checkImage(t, withTables(array("a", 1, 1), turnedTable))
					}
				}
			}
		}
	}
	want(t, "the size at its most", withTables(hash("t", 8, 240, 65536)), 0, api.OK)
	want(t, "the size above it", withTables(hash("t", 9, 240, 65536)), 0, api.ErrImageTable)
	want(t, "the size above it by rounding", withTables(hash("t", 8, 241, 65536)), 0, api.ErrImageTable)
	want(t, "the third", withTables(array("a", 1, 1), array("b", 1, 1), array("c", 0, 1), array("d", 0, 1)), 2, api.ErrImageTable)
}

func TestEntry(t *testing.T) {
	for _, n := range []int{math.MinInt, -1 << 32, -1, 0, 1, 2, 3, 1 << 32, 1<<32 + 1, math.MaxInt} {
		im := cut(exits(3), 1, 1, 1)
		im.Entry = n
		if n < 0 || n > 2 {
			want(t, "an entry", im, 0, api.ErrImageEntry)
		} else {
			want(t, "an entry", im, 0, api.OK)
		}
	}
}

// TestWidths: each field at and beside its bounds, of each opcode, whether such instructions may be or not.
func TestWidths(t *testing.T) {
	few := []int{math.MinInt, -1 << 40, -1 << 31, -1<<31 - 1, -32769, -32768, -1, 0, 1, 10, 11, 15, 16, 255, 256, 32767, 32768, 1<<31 - 1, 1 << 31, 1 << 40, math.MaxInt}
	for op := -2; op < 260; op++ {
		for _, n := range few {
			for _, i := range []api.Insn{{Op: op, Dst: n}, {Op: op, Src: n}, {Op: op, Off: n}, {Op: op, Imm: n}, {Op: op, Dst: 15, Src: 15, Off: -1, Imm: n}} {
				im := cut([]api.Insn{exit(), i, exit()}, 1, 2)
				checkImage(t, im)
			}
		}
	}
	for _, n := range few {
		checkImage(t, turned(func(im *api.Image) { im.Text[0].Op = n }))
	}
	for k := range 5 {
		im := cut(exits(5), 5)
		im.Text[k].Imm = 1 << 31
		im.Text[4].Off = 1 << 15
		want(t, "the first that is too wide", im, k, api.ErrImageInsn)
	}
	im := cut([]api.Insn{lddw(math.MaxInt), lddw(math.MinInt), {Op: 0x18, Dst: 1, Src: 7, Off: 9, Imm: 1 << 40}, {Op: 0x18 + 256}}, 4)
	want(t, "wide ones, and one that is none", im, 3, api.ErrImageInsn)
}

// spoilers gives, by the errors of Check in their order, what makes an image fail with them.
func spoilers() []func(*api.Image) {
	return []func(*api.Image){
		func(im *api.Image) { im.Tables = append(im.Tables, slices.Repeat(im.Tables[:1], 1024)...) },
		func(im *api.Image) { im.Funcs[1].Name = "" },
		func(im *api.Image) { im.Funcs[0].First = 1 },
		func(im *api.Image) { im.Tables[0].Kind = 3 },
		func(im *api.Image) { im.Entry = -1 },
		func(im *api.Image) { im.Text[1].Src = 16 },
	}
}

// TestFirstError: of images with any of the six faults the first decides.
func TestFirstError(t *testing.T) {
	codes := []api.Errno{api.ErrImageMany, api.ErrImageName, api.ErrImageFunc, api.ErrImageTable, api.ErrImageEntry, api.ErrImageInsn}
	numbers := []int{2, 1, 0, 0, 0, 1}
	for set := range 1 << 6 {
		im := cut(exits(3), 1, 2)
		im.Tables = []api.TableDef{array("a", 1, 1), array("b", 1, 1)}
		first := -1
		for k, spoil := range spoilers() {
			if set>>k&1 == 1 {
				spoil(&im)
				if first < 0 {
					first = k
				}
			}
		}
		if first < 0 {
			want(t, "no fault", im, 0, api.OK)
			continue
		}
		want(t, "faults "+strconv.FormatInt(int64(set), 2), im, numbers[first], codes[first])
	}
}

// TestWithinOneError: of one error, functions go ahead of tables, single ones ahead of their sums, and the least number ahead of others.
func TestWithinOneError(t *testing.T) {
	im := cut(exits(3), 1, 1, 1)
	im.Tables = []api.TableDef{array("9", 1, 1), array("a", 1, 1)}
	want(t, "a table's name", im, 3, api.ErrImageName)
	im.Funcs[2].Object = 64
	want(t, "an object and a table's name", im, 2, api.ErrImageName)
	im.Funcs[1].Name = "f0"
	want(t, "a name twice, an object and a table's name", im, 1, api.ErrImageName)
	im.Funcs[0].Name = "0"
	want(t, "a name and others", im, 0, api.ErrImageName)
	big := []api.TableDef{hash("a", 8, 240, 65536), hash("b", 8, 240, 65536), hash("c", 8, 240, 65536), hash("d", 8, 240, 65536)}
	want(t, "as much room as there may be", withTables(big...), 0, api.OK)
	big = append(big, array("e", 1, 1))
	want(t, "too much room", withTables(big...), 5, api.ErrImageTable)
	big[3].Entries = 65535
	want(t, "a table less", withTables(big...), 0, api.OK)
	big = append(big, array("f", 240, 65536), array("g", 0, 1))
	want(t, "too much room, then a table that may not be", withTables(big...), 6, api.ErrImageTable)
}
