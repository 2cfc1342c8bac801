package image

import (
	"bytes"
	"encoding/binary"
	"fmt"
	"slices"
	"testing"

	"spindle/api"
)

// functions gives an image of so many functions of one exit each, with names of 64 bytes.
func functions(n int) api.Image {
	im := api.Image{Text: exits(n)}
	for k := range n {
		im.Funcs = append(im.Funcs, api.ImgFunc{Name: fmt.Sprintf("f%063d", k), Object: k % 64, First: k, Count: 1})
	}
	return im
}

// tables gives an image of so many tables.
func tables(n int) api.Image {
	im := one()
	for k := range n {
		im.Tables = append(im.Tables, array(fmt.Sprintf("t%05d", k), 1, 1))
	}
	return im
}

// rawBytes lays the bytes of an image whether it may be or not.
func rawBytes(im api.Image) []byte {
	text, strings, entries := layPlain(im)
	head := laid([]byte("SPIN"), uint32(1), uint32(len(text)/8), uint32(len(im.Funcs)), uint32(len(im.Tables)), uint32(len(strings)), uint32(im.Entry))
	return slices.Concat(head, text, entries, strings)
}

// TestLimits: each count at its limit and one above, of images and of bytes.
func TestLimits(t *testing.T) {
	t.Parallel()
	for _, row := range []struct {
		what string
		im   api.Image
		k    int
		e    api.Errno
	}{
		{"as many exits as there may be", cut(exits(1048576), 1048576), 0, api.OK},
		{"an exit more", cut(exits(1048577), 1048577), 0, api.ErrImageMany},
		{"as many wide ones as there may be", cut(wides(524288), 524287, 1), 0, api.OK},
		{"a wide one more", cut(wides(524289), 524289), 0, api.ErrImageMany},
		{"wide ones and an exit", cut(append(wides(524288), exit()), 524289), 0, api.ErrImageMany},
		{"wide ones and two exits", cut(append(wides(524287), exit(), exit()), 524289), 0, api.OK},
		{"as many functions as there may be", functions(4096), 0, api.OK},
		{"a function more", functions(4097), 1, api.ErrImageMany},
		{"as many tables as there may be", tables(1024), 0, api.OK},
		{"a table more", tables(1025), 2, api.ErrImageMany},
	} {
		want(t, row.what, row.im, row.k, row.e)
		wantRead(t, row.what, rawBytes(row.im), row.k, row.e)
	}
}

// TestManyOfSeveral: the first count that is too great is told, ahead of all other errors.
func TestManyOfSeveral(t *testing.T) {
	t.Parallel()
	slots, funcs, maps := exits(1048577), functions(4097).Funcs, tables(1025).Tables
	for k := range funcs {
		funcs[k].First = 7
	}
	want(t, "all", api.Image{Text: slots, Funcs: funcs, Tables: maps, Entry: -1}, 0, api.ErrImageMany)
	want(t, "functions and tables", api.Image{Text: exits(3), Funcs: funcs, Tables: maps, Entry: -1}, 1, api.ErrImageMany)
	want(t, "tables", api.Image{Text: exits(3), Tables: maps, Entry: -1}, 2, api.ErrImageMany)
	want(t, "slots alone", api.Image{Text: slots}, 0, api.ErrImageMany)
	want(t, "slots that are too wide", api.Image{Text: slices.Repeat([]api.Insn{{Op: -1}}, 1048577)}, 0, api.ErrImageMany)
}

// TestFormAheadOfMany: bytes with too many slots are looked at all the same.
func TestFormAheadOfMany(t *testing.T) {
	t.Parallel()
	b := rawBytes(cut(exits(1048577), 1048577))
	funcsAt := 28 + 8*1048577
	wantRead(t, "a wide one at the end", put(b, funcsAt-8, 0x18), funcsAt-8, api.ErrImageForm)
	wantRead(t, "no slots", changed(b, funcsAt+12, 0), funcsAt+12, api.ErrImageForm)
	wantRead(t, "strings", put(b, len(b)-1, 'g'), len(b)-3, api.ErrImageForm)
}

// TestManySlots: as much as an image may have of all, there and back. What went through the text for each function would take minutes.
func TestManySlots(t *testing.T) {
	t.Parallel()
	im := functions(4096)
	im.Text = nil
	for k := range im.Funcs {
		im.Funcs[k].First, im.Funcs[k].Count = len(im.Text), 1
		im.Text = append(im.Text, exit())
		if k%2 == 1 {
			im.Funcs[k].Count += 255
			im.Text = append(im.Text, wides(255)...)
		}
	}
	im.Tables, im.Entry = tables(1024).Tables, 4095
	if k, e := Check(im); k != 0 || e != api.OK {
		t.Fatalf("P17.1: Check = %d, %d", k, e)
	}
	b, k, e := Write(im)
	if len(b) != 28+8*(2048+2048*511)+16*4096+20*1024+1+65*4096+7*1024 || k != 0 || e != api.OK {
		t.Fatalf("P17.2: Write = %d bytes, %d, %d", len(b), k, e)
	}
	again, at, e := Read(b)
	if !same(again, im) || at != 0 || e != api.OK {
		t.Fatalf("P17.4: Read of Write = %s, %d, %d", short(again), at, e)
	}
	im.Entry = 4096
	if k, e := Check(im); k != 0 || e != api.ErrImageEntry {
		t.Errorf("P17.1: Check = %d, %d, want 0, ErrImageEntry", k, e)
	}
	im.Entry, im.Text[len(im.Text)-1].Off = 0, 32768
	if k, e := Check(im); k != len(im.Text)-1 || e != api.ErrImageInsn {
		t.Errorf("P17.1: Check = %d, %d, want the last instruction, ErrImageInsn", k, e)
	}
}

// manyEntries gives bytes of so many slots and functions, each function with a name of its own, and as many tables with the functions' names, the last one first.
func manyEntries(n int) []byte {
	table := []byte{0}
	places := make([]uint32, n)
	for k := range n {
		places[k] = uint32(len(table))
		table = append(fmt.Appendf(table, "f%d", k), 0)
	}
	b := laid([]byte("SPIN"), [6]uint32{1, uint32(n), uint32(n), uint32(n), uint32(len(table)), 0})
	b = append(b, make([]byte, 8*n)...)
	lay := func(numbers ...uint32) {
		for _, m := range numbers {
			b = binary.LittleEndian.AppendUint32(b, m)
		}
	}
	for k := range n {
		lay(places[k], 0, uint32(k), 1)
	}
	for k := range n {
		lay(places[n-1-k], 1, 4, 1, 1)
	}
	return append(b, table...)
}

// TestManyEntries: bytes that are refused at last are gone through once. What went through the names or the text for each entry would take minutes.
func TestManyEntries(t *testing.T) {
	t.Parallel()
	n := 300000
	b := manyEntries(n)
	check := func(what string, b []byte, wantAt int, wantE api.Errno) {
		if im, at, e := Read(b); !nothing(im) || at != wantAt || e != wantE {
			t.Errorf("P17.3: Read(%s) = %s, %d, %d, want %d, %d", what, short(im), at, e, wantAt, wantE)
		}
	}
	check("many entries", b, 1, api.ErrImageMany)
	last := len(b) - number(b, 20) - 20
	check("a place that is none at last", changed(b, last, 2), last, api.ErrImageForm)
	check("no name at last", b[:len(b)-1], 8, api.ErrImageForm)
	check("no end of a name at last", put(b, len(b)-1, 'x'), len(b)-8, api.ErrImageForm)
}

// TestLongStrings: strings without an end, and of one name a million times.
func TestLongStrings(t *testing.T) {
	t.Parallel()
	b := oneBytes()[:52]
	for _, row := range []struct {
		strings []byte
		at      int
	}{
		{bytes.Repeat([]byte{0}, 1<<24), 53},
		{bytes.Repeat([]byte{'a'}, 1<<24), 52},
		{append([]byte{0}, bytes.Repeat([]byte{'a'}, 1<<24)...), 53},
		{append([]byte{0}, bytes.Repeat([]byte("a\x00"), 1<<20)...), 55},
	} {
		wantRead(t, "long strings", append(changed(b, 20, len(row.strings)), row.strings...), row.at, api.ErrImageForm)
	}
}
