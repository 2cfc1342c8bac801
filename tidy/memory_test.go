package tidy

import (
	"math/rand"
	"reflect"
	"slices"
	"strconv"
	"testing"

	"spindle/api"
)

// full gives an image in which there is something for each change to do, and one in which there is nothing.
func full() []api.Image {
	f := list(self(1), jeq(2), ja(3), mov(1), exit(), mov(2), ja(1), mov(3), ldmap(1), calls(1), exit())
	return []api.Image{
		tabled(cut(f, list(ja(0), exit())), 2),
		tabled(cut(list(mov(1), jeq(-2), ldmap(0), exit()), list(ja(-1))), 1),
		cut(list(exit())),
	}
}

// roomy gives a list with the same items, and spare room behind them that is filled with an item.
func roomy[E any](list []E, filler E) []E {
	wider := append(slices.Clone(list), slices.Repeat([]E{filler}, 3)...)
	return wider[:len(list)]
}

// allOf gives a list with its spare room.
func allOf[E any](list []E) []E { return slices.Clone(list[:cap(list)]) }

// TestImageIsLeft: neither the image nor its spare room is changed or looked at.
func TestImageIsLeft(t *testing.T) {
	for _, plain := range append(full(), cut(list(mov(1))), api.Image{}) {
		im := api.Image{Text: roomy(plain.Text, ja(9)), Funcs: roomy(plain.Funcs, api.ImgFunc{Name: "A", First: len(plain.Text), Count: 1}), Tables: roomy(plain.Tables, api.TableDef{Name: "z", Kind: api.TableArray, Key: 4, Value: 1, Entries: 1})}
		state := func() []any { return []any{allOf(im.Text), allOf(im.Funcs), allOf(im.Tables), im.Entry} }
		before := state()
		wanted, wantedE := Image(plain)
		if got, e := Image(im); e != wantedE || !same(got, wanted) {
			t.Errorf("R4: with spare room Image gives %s, %d, want %s, %d", short(got), e, short(wanted), wantedE)
		}
		if after := state(); !reflect.DeepEqual(before, after) {
			t.Errorf("R4: %s is %s now", short(before), short(after))
		}
	}
}

// spoil writes over an image's lists, and behind their ends.
func spoil(im api.Image) {
	for _, text := range [][]api.Insn{im.Text, append(im.Text, mov(7))} {
		for k := range text {
			text[k] = api.Insn{Op: 77}
		}
	}
	for _, fs := range [][]api.ImgFunc{im.Funcs, append(im.Funcs, api.ImgFunc{})} {
		for k := range fs {
			fs[k] = api.ImgFunc{Name: "spoilt", First: 77}
		}
	}
	for _, ts := range [][]api.TableDef{im.Tables, append(im.Tables, api.TableDef{})} {
		for k := range ts {
			ts[k] = api.TableDef{Name: "spoilt"}
		}
	}
}

// TestImageIsNew: what is given shares memory neither with the image nor with what was given ahead.
func TestImageIsNew(t *testing.T) {
	for k := range full() {
		im := full()[k]
		first, _ := Image(im)
		second, _ := Image(im)
		wanted, _ := Image(full()[k])
		spoil(first)
		if !same(second, wanted) || !same(im, full()[k]) {
			t.Errorf("R4: what is written into an answer is seen in %s or in %s", short(second), short(im))
		}
		spoil(im)
		if !same(second, wanted) {
			t.Errorf("R4: what is written into the image is seen in %s", short(second))
		}
	}
}

// TestEmptyLists: nil and empty lists are one.
func TestEmptyLists(t *testing.T) {
	im := cut(list(self(1), exit()))
	im.Tables = []api.TableDef{}
	want(t, "an empty list of tables", im, cut(list(exit())))
	wantRefused(t, "empty lists", api.Image{Text: fn{}, Funcs: []api.ImgFunc{}, Tables: []api.TableDef{}}, api.ErrVerifyImage)
}

// TestSideBySide: many ask at one time, of one image and of images of their own.
func TestSideBySide(t *testing.T) {
	c := maker{rand.New(rand.NewSource(4))}
	shared := full()
	for range 30 {
		shared = append(shared, c.image(t, 20))
	}
	var wanted []api.Image
	for _, im := range shared {
		wanted = append(wanted, tidiedImage(t, im))
	}
	for n := range 8 {
		t.Run(strconv.Itoa(n), func(t *testing.T) {
			t.Parallel()
			for range 30 {
				for k, im := range shared {
					if got, e := Image(im); e != api.OK || !same(got, wanted[k]) {
						t.Fatalf("R5: Image gives %s, %d, want %s", short(got), e, short(wanted[k]))
					}
				}
			}
		})
	}
}
