package image

import (
	"bytes"
	"reflect"
	"slices"
	"strconv"
	"testing"

	"spindle/api"
)

// roomy gives a list with the same items, and spare room behind them that is filled with an item.
func roomy[E any](list []E, filler E) []E {
	wider := append(slices.Clone(list), slices.Repeat([]E{filler}, 3)...)
	return wider[:len(list)]
}

// roomyImage gives an image with spare room behind each list, filled with what would fit there.
func roomyImage(im api.Image) api.Image {
	return api.Image{
		Text:   roomy(im.Text, exit()),
		Funcs:  roomy(im.Funcs, api.ImgFunc{Name: "room", First: len(im.Text), Count: 1}),
		Tables: roomy(im.Tables, array("zroom", 1, 1)),
		Entry:  im.Entry,
	}
}

// allOf gives a list with its spare room.
func allOf[E any](list []E) []E { return slices.Clone(list[:cap(list)]) }

// stateOf gives all of an image, its spare room too.
func stateOf(im api.Image) []any {
	return []any{allOf(im.Text), allOf(im.Funcs), allOf(im.Tables), len(im.Text), len(im.Funcs), len(im.Tables), im.Entry}
}

// wrongImages gives images that may not be, of each error.
func wrongImages() []api.Image {
	var ims []api.Image
	for _, spoil := range spoilers() {
		im := whole()
		spoil(&im)
		ims = append(ims, im)
	}
	return ims
}

// TestImagesAreLeft: neither an image that is handed in nor its spare room is changed or looked at.
func TestImagesAreLeft(t *testing.T) {
	for _, plain := range append(wrongImages(), whole(), one(), api.Image{}) {
		wantK, wantE := plainCheck(plain)
		im := roomyImage(plain)
		before := stateOf(im)
		if k, e := checkImage(t, im); k != wantK || e != wantE {
			t.Errorf("R4: Check(%s) = %d, %d, want %d, %d", short(im), k, e, wantK, wantE)
		}
		if after := stateOf(im); !reflect.DeepEqual(before, after) {
			t.Errorf("R4: %s is %s now", short(before), short(after))
		}
	}
	// What stands in the spare room alone is no part of the image.
	im := roomyImage(one())
	im.Entry = 1
	want(t, "an entry in the spare room", im, 0, api.ErrImageEntry)
	im.Entry, im.Funcs[0].Count = 0, 2
	want(t, "an instruction in the spare room", im, 0, api.ErrImageFunc)
}

// TestBytesAreLeft: neither bytes that are handed in nor their spare room are changed or looked at.
func TestBytesAreLeft(t *testing.T) {
	for _, plain := range [][]byte{wholeBytes(), oneBytes(), wholeBytes()[:60], put(wholeBytes(), wholeFuncs, 2), put(wholeBytes(), 24, 9), put(wholeBytes(), 44, 1), nil} {
		for _, filler := range []byte{0, 0xaa} {
			b := roomy(plain, filler)
			before := allOf(b)
			checkBytes(t, "bytes with spare room", b)
			if !bytes.Equal(before, allOf(b)) {
				t.Errorf("R4: %x is %x now", before, allOf(b))
			}
		}
	}
	b := wholeBytes()
	if _, at, e := Read(b[: len(b)-1 : len(b)]); at != 8 || e != api.ErrImageForm {
		t.Errorf("R4: Read looks at the spare room: %d, %d", at, e)
	}
}

// spoilImage writes over all of an answer, and behind its lists.
func spoilImage(im api.Image) {
	for k := range im.Text[:cap(im.Text)] {
		im.Text[:cap(im.Text)][k] = api.Insn{Op: 77}
	}
	for k := range im.Funcs[:cap(im.Funcs)] {
		im.Funcs[:cap(im.Funcs)][k] = api.ImgFunc{Name: "spoilt"}
	}
	for k := range im.Tables[:cap(im.Tables)] {
		im.Tables[:cap(im.Tables)][k] = api.TableDef{Name: "spoilt"}
	}
}

// TestImagesAreNew: whoever writes into an image that was read changes neither the bytes nor another image, and the other way round.
func TestImagesAreNew(t *testing.T) {
	b := wholeBytes()
	first, _, _ := Read(b)
	second, _, _ := Read(b)
	spoilImage(first)
	if !bytes.Equal(b, wholeBytes()) {
		t.Errorf("R4: bytes share memory with their image: %x", b)
	}
	if !same(second, whole()) {
		t.Errorf("R4: two images share memory: %+v", second)
	}
	if third, _, _ := Read(b); !same(third, whole()) {
		t.Errorf("R4: Read = %+v behind writes into an answer", third)
	}
	for k := range b {
		b[k] = 'z'
	}
	if !same(second, whole()) {
		t.Errorf("R4: an image keeps its bytes' memory: %+v", second)
	}
}

// TestBytesAreNew: the same of bytes that were written.
func TestBytesAreNew(t *testing.T) {
	im := whole()
	first, _, _ := Write(im)
	second, _, _ := Write(im)
	for k := range first[:cap(first)] {
		first[:cap(first)][k] = 'z'
	}
	if !same(im, whole()) || !bytes.Equal(second, wholeBytes()) {
		t.Errorf("R4: bytes share memory with their image, or with others: %+v, %x", im, second)
	}
	if third, _, _ := Write(im); !bytes.Equal(third, wholeBytes()) {
		t.Errorf("R4: Write = %x behind writes into an answer", third)
	}
	clear(im.Text)
	clear(im.Funcs)
	clear(im.Tables)
	if !bytes.Equal(second, wholeBytes()) {
		t.Errorf("R4: bytes keep their image's memory: %x", second)
	}
}

// TestNilAndEmpty: nil and empty lists are one.
func TestNilAndEmpty(t *testing.T) {
	empty := api.Image{Text: []api.Insn{}, Funcs: []api.ImgFunc{}, Tables: []api.TableDef{}}
	for _, im := range []api.Image{{}, empty} {
		if b, k, e := Write(im); len(b) != 0 || k != 0 || e != api.ErrImageEntry {
			t.Errorf("R1: Write(%+v) = %x, %d, %d, want 0, ErrImageEntry", im, b, k, e)
		}
		withOne := one()
		withOne.Tables = im.Tables
		if b, k, e := Write(withOne); !bytes.Equal(b, oneBytes()) || k != 0 || e != api.OK {
			t.Errorf("R1: Write(%+v) = %x, %d, %d", withOne, b, k, e)
		}
	}
	for _, b := range [][]byte{nil, {}} {
		if im, at, e := Read(b); !nothing(im) || at != 0 || e != api.ErrImageForm {
			t.Errorf("R1: Read(%v) = %+v, %d, %d, want 0, ErrImageForm", b, im, at, e)
		}
	}
}

// TestRefusedWrites: beside an error there are no bytes.
func TestRefusedWrites(t *testing.T) {
	for _, im := range wrongImages() {
		if b, _, e := Write(im); b != nil || e == api.OK {
			t.Errorf("R2: Write(%s) = %s, %d", short(im), shortBytes(b), e)
		}
	}
}

// TestSideBySide: calls at one time have nothing to do with each other.
func TestSideBySide(t *testing.T) {
	im, b := whole(), wholeBytes()
	for n := range 8 {
		t.Run(strconv.Itoa(n), func(t *testing.T) {
			t.Parallel()
			for range 200 {
				checkImage(t, im)
				checkBytes(t, "whole", b)
				checkBytes(t, "whole with a fault", put(b, wholeFuncs+16*(n%4), 99))
			}
		})
	}
}
