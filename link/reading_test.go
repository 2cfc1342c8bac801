package link

import (
	"slices"
	"testing"

	"spindle/api"
	"spindle/image"
	"spindle/names"
)

// Here images are read a second time, by the chapters' words: without maps, each name sought out anew in all objects.

// readNumber gives the number in the image of the function with the number k of the object with the number n.
func readNumber(os []api.Object, n, k int) int {
	for _, o := range os[:n] {
		k += len(o.Funcs)
	}
	return k
}

// readGlobal gives the number in the image of the global function of a name, below 0 where there is none.
func readGlobal(os []api.Object, name string) int {
	for n, o := range os {
		for k, f := range o.Funcs {
			if f.Global && f.Name == name {
				return readNumber(os, n, k)
			}
		}
	}
	return -1
}

// readImm gives what link is to write at a relocation of the object with the number n.
func readImm(os []api.Object, tables []api.TableDef, n int, r api.Reloc) int {
	o := os[n]
	switch {
	case r.Kind == api.RelTable:
		return slices.IndexFunc(tables, func(t api.TableDef) bool { return t.Name == o.Tables[r.Name].Name })
	case r.Name < len(o.Funcs):
		return readNumber(os, n, r.Name)
	}
	return readGlobal(os, o.Externs[r.Name-len(o.Funcs)])
}

// readSize gives a table's size, the rounded value counted up to.
func readSize(t api.TableDef) int {
	value := t.Value
	for value%8 != 0 {
		value++
	}
	return t.Entries * (t.Key + value + 8)
}

func readLong(os []api.Object, tables []api.TableDef) bool {
	slots, funcs, room := 0, 0, 0
	for _, o := range os {
		funcs += len(o.Funcs)
		for _, i := range o.Text {
			slots++
			if i.Op == 0x18 {
				slots++
			}
		}
	}
	for _, t := range tables {
		room += readSize(t)
	}
	return slots > 1048576 || funcs > 4096 || len(tables) > 1024 || room > 67108864
}

// readLink gives what Link is to answer.
func readLink(os []api.Object, entry string) (api.Image, string, api.Errno) {
	all, name, e := names.Merge(os)
	if e != api.OK {
		return api.Image{}, name, e
	}
	number := readGlobal(os, entry)
	if number < 0 {
		return api.Image{}, entry, api.ErrLinkEntry
	}
	if readLong(os, all.Tables) {
		return api.Image{}, "", api.ErrLinkLong
	}
	im := api.Image{Tables: all.Tables, Entry: number}
	for n, o := range os {
		ahead := len(im.Text)
		for _, f := range o.Funcs {
			im.Funcs = append(im.Funcs, api.ImgFunc{Name: f.Name, Object: n, First: f.First + ahead, Count: f.Count})
		}
		for at, i := range o.Text {
			for _, r := range o.Relocs {
				if r.At == at {
					i.Imm = readImm(os, all.Tables, n, r)
				}
			}
			im.Text = append(im.Text, i)
		}
	}
	return im, "", api.OK
}

func same(a, b api.Image) bool {
	return slices.Equal(a.Text, b.Text) && slices.Equal(a.Funcs, b.Funcs) && slices.Equal(a.Tables, b.Tables) && a.Entry == b.Entry
}

// nothing tells whether an image is all zeros.
func nothing(im api.Image) bool { return same(im, api.Image{}) }

// checkLink holds Link and Why against the second reading.
func checkLink(t *testing.T, os []api.Object, entry string) api.Errno {
	t.Helper()
	im, name, e := Link(os, entry)
	want, wantName, wantE := readLink(os, entry)
	if !same(im, want) || name != wantName || e != wantE {
		t.Fatalf("P16.1: Link(%s, %q) = %s, %q, %d, want %s, %q, %d", short(os), entry, short(im), name, e, short(want), wantName, wantE)
	}
	checkWhy(t, os, entry, wantName, wantE)
	if e == api.OK {
		checkMay(t, im)
	}
	return e
}

// isRead tells whether a text is a name (DOC.md, Words).
func isRead(name string) bool {
	for k, c := range []byte(name) {
		letter := 'a' <= c && c <= 'z' || 'A' <= c && c <= 'Z' || c == '_'
		if !letter && (k == 0 || c != '.' && c != '$' && (c < '0' || c > '9')) {
			return false
		}
	}
	return 1 <= len(name) && len(name) <= 64
}

// checkMay: an image may be, by the words of DOC.md and chapter 17.
func checkMay(t *testing.T, im api.Image) {
	t.Helper()
	if k, e := image.Check(im); k != 0 || e != api.OK {
		t.Fatalf("P16.3: image.Check(%s) = %d, %d", short(im), k, e)
	}
	if what := readFault(im); what != "" {
		t.Fatalf("P16.3: %s: %s", short(im), what)
	}
	b, k, e := image.Write(im)
	if again, at, wrong := image.Read(b); k != 0 || e != api.OK || !same(again, im) || at != 0 || wrong != api.OK {
		t.Fatalf("P16.3: %s: image.Write tells %d, %d, and image.Read %d, %d", short(im), k, e, at, wrong)
	}
}

// readFault tells why an image may not be.
func readFault(im api.Image) string {
	if readLong([]api.Object{{Text: im.Text}}, im.Tables) || len(im.Funcs) > 4096 {
		return "too much"
	}
	begin, seen := 0, map[api.ImgFunc]int{}
	for _, f := range im.Funcs {
		key := api.ImgFunc{Name: f.Name, Object: f.Object}
		seen[key]++
		if !isRead(f.Name) || f.Object < 0 || f.Object > 63 || seen[key] > 1 {
			return "the name " + f.Name
		}
		if f.First != begin || f.Count < 1 || f.Count > len(im.Text)-begin {
			return "the function " + f.Name
		}
		begin += f.Count
	}
	if begin != len(im.Text) {
		return "instructions of no function"
	}
	for k, d := range im.Tables {
		if !isRead(d.Name) || k > 0 && im.Tables[k-1].Name >= d.Name || !readTable(d) {
			return "the table " + d.Name
		}
	}
	if im.Entry < 0 || im.Entry >= len(im.Funcs) {
		return "the entry"
	}
	return readWidths(im.Text)
}

func readTable(d api.TableDef) bool {
	keyed := d.Kind == api.TableArray && d.Key == 4 || d.Kind == api.TableHash && 1 <= d.Key && d.Key <= 64
	return keyed && 1 <= d.Value && d.Value <= 4096 && 1 <= d.Entries && d.Entries <= 65536 && readSize(d) <= 16777216
}

func readWidths(text []api.Insn) string {
	for _, i := range text {
		narrow := i.Op == 0x18 && i.Src == 0 || -1<<31 <= i.Imm && i.Imm < 1<<31
		if i.Op < 0 || i.Op > 255 || i.Dst < 0 || i.Dst > 15 || i.Src < 0 || i.Src > 15 || i.Off < -32768 || i.Off > 32767 || !narrow {
			return "an instruction"
		}
	}
	return ""
}
