package link

import (
	"fmt"
	"slices"
	"strconv"
	"testing"

	"spindle/api"
)

func exits(n int) []api.Insn { return slices.Repeat([]api.Insn{{Op: 0x95}}, n) }
func wides(n int) []api.Insn { return slices.Repeat([]api.Insn{{Op: 0x18, Imm: 5}}, n) }

// oneOf gives an object of one local function f.
func oneOf(text []api.Insn) api.Object {
	return api.Object{Text: text, Funcs: []api.ObjFunc{{Name: "f", Count: len(text)}}}
}

// manyOf gives an object of so many local functions, of one instruction each.
func manyOf(n int) api.Object {
	o := api.Object{Text: exits(n)}
	for k := range n {
		o.Funcs = append(o.Funcs, api.ObjFunc{Name: "f" + strconv.Itoa(k), First: k, Count: 1})
	}
	return o
}

func hash(name string, key, value, entries int) api.TableDef {
	return api.TableDef{Name: name, Kind: api.TableHash, Key: key, Value: value, Entries: entries}
}

func array(name string, value, entries int) api.TableDef {
	return api.TableDef{Name: name, Kind: api.TableArray, Key: 4, Value: value, Entries: entries}
}

func tablesOf(ts ...api.TableDef) api.Object { return api.Object{Tables: ts} }

// arrays gives the tables of n names, from the one with the number first on.
func arrays(first, n int) api.Object {
	var o api.Object
	for k := range n {
		o.Tables = append(o.Tables, array(fmt.Sprintf("t%04d", first+k), 1, 1))
	}
	return o
}

// global makes the first function of an object a global one of the name m.
func global(o api.Object) api.Object {
	o.Funcs = slices.Clone(o.Funcs)
	o.Funcs[0].Name, o.Funcs[0].Global = "m", true
	return o
}

// checkLong: whether objects, with one among them that has the entry m, are too much for an image.
func checkLong(t *testing.T, what string, long bool, os ...api.Object) {
	t.Helper()
	want := api.OK
	if long {
		want = api.ErrLinkLong
	}
	turned := slices.Clone(os)
	slices.Reverse(turned)
	for _, list := range [][]api.Object{slices.Clone(os), turned} {
		t.Run(what, func(t *testing.T) {
			t.Parallel()
			im, name, e := Link(list, "m")
			if name != "" || e != want || long && !nothing(im) {
				t.Errorf("P16.1: %s: %s, %q, %d, want %d", what, short(im), name, e, want)
			}
			if e == api.OK {
				checkMay(t, im)
			}
			checkWhy(t, list, "m", "", want)
			checkAheadOfLong(t, what, list)
		})
	}
}

// checkAheadOfLong: an entry or an extern that is none goes ahead of all sizes.
func checkAheadOfLong(t *testing.T, what string, os []api.Object) {
	t.Helper()
	if im, name, e := Link(os, "none"); !nothing(im) || name != "none" || e != api.ErrLinkEntry {
		t.Errorf("P16.1: %s without the entry: %s, %q, %d, want none, ErrLinkEntry", what, short(im), name, e)
	}
	wrong := slices.Clone(os)
	wrong[0].Externs = []string{"x"}
	if im, name, e := Link(wrong, "m"); !nothing(im) || name != "x" || e != api.ErrLinkUndefined {
		t.Errorf("P16.1: %s with an extern that is none: %s, %q, %d, want x, ErrLinkUndefined", what, short(im), name, e)
	}
}

// TestSlots: 1048576 slots are fine, one more is not; a wide instruction has two.
func TestSlots(t *testing.T) {
	t.Parallel()
	full := slices.Repeat([]api.Object{oneOf(exits(65536))}, 17)
	full[0] = global(full[0])
	checkLong(t, "16 full objects", false, full[:16]...)
	checkLong(t, "16 full objects and one slot", true, append(full[:16:16], oneOf(exits(1)))...)
	checkLong(t, "17 full objects", true, full...)
	wide := slices.Repeat([]api.Object{oneOf(wides(32768))}, 17)
	wide[0] = global(wide[0])
	checkLong(t, "16 objects of wide ones", false, wide[:16]...)
	checkLong(t, "16 objects of wide ones and one slot", true, append(wide[:16:16], oneOf(exits(1)))...)
	checkLong(t, "17 objects of wide ones", true, wide...)
	less := append(full[:15:15], oneOf(exits(65534)))
	checkLong(t, "two slots fewer", false, less...)
	checkLong(t, "two slots fewer, and a wide one", false, append(less, oneOf(wides(1)))...)
	checkLong(t, "two slots fewer, and a wide one and another", true, append(less, oneOf(append(wides(1), exits(1)...)))...)
	small := slices.Repeat([]api.Object{oneOf(exits(16384))}, 64)
	small[63] = global(small[63])
	checkLong(t, "64 objects of 16384", false, small...)
	small[0] = oneOf(exits(16385))
	checkLong(t, "64 objects of 16384 and one slot", true, small...)
}

// TestFunctions: 4096 functions are fine, one more is not.
func TestFunctions(t *testing.T) {
	t.Parallel()
	for _, n := range []int{1024, 64, 100} {
		var os []api.Object
		for left := 4096; left > 0; left -= n {
			os = append(os, manyOf(min(n, left)))
		}
		os[0] = global(os[0])
		checkLong(t, "4096 functions", false, os...)
		if len(os) < 64 {
			checkLong(t, "4096 functions and nothing", false, append(os, api.Object{})...)
			checkLong(t, "4097 functions", true, append(os, manyOf(1))...)
		} else {
			os[63] = manyOf(65)
			checkLong(t, "4097 functions in 64 objects", true, os...)
		}
	}
}

// TestTableCount: 1024 tables are fine, one more is not; those of one name are one.
func TestTableCount(t *testing.T) {
	t.Parallel()
	m := global(oneOf(exits(1)))
	checkLong(t, "1024 tables", false, m, arrays(0, 1024))
	checkLong(t, "1025 tables", true, m, arrays(0, 1024), arrays(1024, 1))
	checkLong(t, "1025 tables of two objects", true, m, arrays(0, 1000), arrays(900, 125))
	checkLong(t, "1024 tables of two objects", false, m, arrays(0, 1000), arrays(900, 124))
	checkLong(t, "1024 tables of many objects", false, slices.Insert(slices.Repeat([]api.Object{arrays(0, 1024)}, 63), 30, m)...)
	checkLong(t, "2048 tables", true, m, arrays(0, 1024), arrays(1024, 1024))
}

// TestRoom: 67108864 bytes of tables are fine, one more is not; those of one name are one; key, rounded value and eight more count.
func TestRoom(t *testing.T) {
	t.Parallel()
	m := global(oneOf(exits(1)))
	four := func(key, value int) []api.Object {
		var os []api.Object
		for k := range 4 {
			os = append(os, tablesOf(hash("t"+strconv.Itoa(k), key, value, 65536)))
		}
		return append(os, m)
	}
	for _, row := range []struct{ key, value int }{{8, 240}, {8, 239}, {8, 233}, {64, 184}, {16, 232}, {16, 225}} {
		what := fmt.Sprintf("four tables of key %d, value %d", row.key, row.value)
		checkLong(t, what, false, four(row.key, row.value)...)
		checkLong(t, what+" and the least one", true, append(four(row.key, row.value), tablesOf(hash("u", 1, 1, 1)))...)
		checkLong(t, what+" and again", false, append(four(row.key, row.value), tablesOf(hash("t2", row.key, row.value, 65536), hash("t0", row.key, row.value, 65536)))...)
	}
	less := append(four(8, 240)[1:], tablesOf(hash("v", 8, 240, 65535))) // 256 are left
	for _, row := range []struct {
		def  api.TableDef
		long bool
	}{
		{hash("u", 8, 240, 1), false}, {hash("u", 8, 241, 1), true}, {hash("u", 9, 240, 1), true}, {hash("u", 9, 233, 1), true}, {hash("u", 9, 232, 1), false},
		{hash("u", 1, 1, 15), false}, {hash("u", 1, 1, 16), true}, {array("u", 240, 1), false}, {array("u", 244, 1), true}, {array("u", 8, 12), false}, {array("u", 8, 13), true},
		{array("u", 1, 12), false}, {array("u", 1, 13), true}, {hash("u", 16, 8, 8), false}, {hash("u", 16, 9, 8), true}, {hash("u", 17, 8, 8), true}, {hash("u", 16, 8, 9), true},
	} {
		checkLong(t, fmt.Sprintf("256 left and %+v", row.def), row.long, append(less, tablesOf(row.def))...)
	}
	var big []api.TableDef
	for k := range 1024 {
		big = append(big, hash("t"+strconv.Itoa(k), 8, 240, 65536))
	}
	checkLong(t, "1024 tables of the greatest size", true, m, tablesOf(big...))
}

// TestLimitsAtOnce: all four at their limits is fine, one more of either is not.
func TestLimitsAtOnce(t *testing.T) {
	t.Parallel()
	var os []api.Object
	for range 16 {
		o := manyOf(256)
		o.Text = append(exits(510), wides(32768-255)...)
		o.Funcs[255].Count = len(o.Text) - 255
		os = append(os, o)
	}
	os[5] = global(os[5])
	for k := range 1024 {
		os[k%16].Tables = append(os[k%16].Tables, hash(fmt.Sprintf("t%d", k), 8, 240, 256))
	}
	checkLong(t, "all limits", false, os...)
	for what, more := range map[string]api.Object{
		"a slot":  oneOf(exits(1)),
		"a table": tablesOf(array("one.more", 1, 1)),
	} {
		checkLong(t, "all limits and "+what, true, append(os, more)...)
	}
	checkLong(t, "all limits and a table that is there", false, append(os, tablesOf(os[9].Tables[3]))...)
}

// TestFullest: as many objects, functions, externs, tables and sites as an image has room for.
func TestFullest(t *testing.T) {
	t.Parallel()
	os := make([]api.Object, 64)
	name := func(what string, object, k int) string { return fmt.Sprintf("%s%d.%d", what, object%64, k) }
	for n := range os {
		o := &os[n]
		for k := range 64 {
			o.Funcs = append(o.Funcs, api.ObjFunc{Name: name("f", n, k), Global: true, First: 128 * k, Count: 128})
		}
		for k := range 1024 {
			o.Externs = append(o.Externs, name("f", n+1+k/64, k%64))
			o.Tables = append(o.Tables, array(fmt.Sprintf("t%04d", (k+16*n)%1024), 1, 1))
		}
		for k := range 8192 {
			if k%2 == 0 {
				o.Text = append(o.Text, api.Insn{Op: 0x85, Src: 1, Imm: -1})
				o.Relocs = append(o.Relocs, api.Reloc{At: k, Kind: api.RelCall, Name: k / 2 % 1088})
				continue
			}
			o.Text = append(o.Text, api.Insn{Op: 0x18, Src: 1})
			o.Relocs = append(o.Relocs, api.Reloc{At: k, Kind: api.RelTable, Name: k / 2 % 1024})
		}
	}
	im, told, e := Link(os, "f63.63")
	if told != "" || e != api.OK || len(im.Text) != 524288 || len(im.Funcs) != 4096 || len(im.Tables) != 1024 || im.Entry != 4095 {
		t.Fatalf("P16.1: fullest: %s, %q, %d", short(im), told, e)
	}
	checkMay(t, im)
	for at, i := range im.Text {
		n, k := at/8192, at%8192/2
		want := (k + 16*n) % 1024
		if at%2 == 0 {
			want = (64*n + k%1088) % 4096 // the own ones, and those of the objects behind, stand in one row
		}
		if i.Imm != want {
			t.Fatalf("P16.1: fullest: site %d has the Imm %d, want %d", at, i.Imm, want)
		}
	}
}
