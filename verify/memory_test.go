package verify

import (
	"errors"
	"reflect"
	"slices"
	"strconv"
	"testing"

	"spindle/api"
)

// right gives an image of which nothing is wrong, with everything in it.
func right() api.Image {
	im := tabled(called("b a b c", list(calls(3), jeq(2), lddw(1), ldmap(0), ja(-7), exit()), list(calls(0), calls(2), exit()), list(mov(1), helper(3), exit()), list(calls(2), ja32(-2))), 2)
	im.Funcs[0].Object = 3
	return im
}

// images gives an image of each answer.
func images() []api.Image {
	all := []api.Image{{}}
	for _, do := range []func(im *api.Image){
		func(im *api.Image) {},
		func(im *api.Image) { im.Text[7] = wrong() },
		func(im *api.Image) { im.Text[1].Off = 1 },
		func(im *api.Image) { im.Text[8] = mov(0) },
		func(im *api.Image) { im.Text[9] = top() },
		func(im *api.Image) { im.Text[12].Imm = 4 },
		func(im *api.Image) { im.Text[3].Imm = 2 },
		func(im *api.Image) { im.Text[10].Imm = 5 },
		func(im *api.Image) { im.Text[9] = calls(0) },
		func(im *api.Image) { im.Entry = 4 },
	} {
		im := right()
		do(&im)
		all = append(all, im)
	}
	return all
}

// TestEachAnswer: of the images here each answer is told.
func TestEachAnswer(t *testing.T) {
	told := map[api.Errno]int{}
	for _, im := range images() {
		told[check(t, im).e]++
	}
	if len(told) != 10 {
		t.Errorf("told %v, want all", told)
	}
}

// roomy gives a list with the same items, and spare room behind them that is filled with an item.
func roomy[E any](list []E, filler E) []E {
	wider := append(slices.Clone(list), slices.Repeat([]E{filler}, 3)...)
	return wider[:len(list)]
}

// allOf gives a list with its spare room.
func allOf[E any](list []E) []E { return slices.Clone(list[:cap(list)]) }

// TestImageIsLeft: neither the image nor its spare room is changed or looked at.
func TestImageIsLeft(t *testing.T) {
	for _, plain := range images() {
		im := api.Image{Text: roomy(plain.Text, wrong()), Funcs: roomy(plain.Funcs, api.ImgFunc{Name: "A", First: len(plain.Text), Count: 1}), Tables: roomy(plain.Tables, api.TableDef{Name: "z", Kind: api.TableArray, Key: 4, Value: 1, Entries: 1}), Entry: plain.Entry}
		state := func() []any { return []any{allOf(im.Text), allOf(im.Funcs), allOf(im.Tables), im.Entry} }
		before, wanted := state(), checked(plain)
		want(t, "with spare room", im, wanted.f, wanted.at, wanted.e)
		if after := state(); !reflect.DeepEqual(before, after) {
			t.Errorf("R4: %s is %s now", short(before), short(after))
		}
	}
}

// TestWhyIsNew: each time another fault, which keeps nothing of the image and is kept by nobody.
func TestWhyIsNew(t *testing.T) {
	for _, im := range images() {
		wanted := checked(im)
		var first, second *api.Fault
		if errors.As(Why(im), &first) != (wanted.e != api.OK) || errors.As(Why(im), &second) != (wanted.e != api.OK) {
			t.Fatalf("P19.2: Why does not tell what Check tells, %+v", wanted)
		}
		if wanted.e == api.OK {
			continue
		}
		if first == second {
			t.Errorf("R4: Why hands one fault out twice")
		}
		kept := *second
		*first = api.Fault{Wrong: api.WrongLink, Code: 7, At: 7, Name: "spoilt"}
		im.Funcs = slices.Clone(im.Funcs)
		if *second != kept {
			t.Errorf("R4: two faults share memory")
		}
		wantWhy(t, "behind writes into a fault", im, wanted)
		clear(im.Funcs)
		clear(im.Text)
		if *second != kept {
			t.Errorf("R4: a fault turns with the image")
		}
	}
}

// TestNilWhy: what is no fault is nil as an error, not a nil pointer in one.
func TestNilWhy(t *testing.T) {
	if why := Why(right()); why != nil {
		t.Errorf("P19.2: Why = %#v, want nil", why)
	}
}

// TestEmptyTables: nil and empty lists are one.
func TestEmptyTables(t *testing.T) {
	for _, f := range []fn{list(exit()), list(ldmap(0), exit()), list(calls(0), exit())} {
		im := cut(f)
		wanted := checked(im)
		im.Tables = []api.TableDef{}
		want(t, "an empty list of tables", im, wanted.f, wanted.at, wanted.e)
	}
}

// TestSideBySide: many ask at one time, of one image and of images of their own.
func TestSideBySide(t *testing.T) {
	shared := images()
	var wanted []answer
	for _, im := range shared {
		wanted = append(wanted, checked(im))
	}
	for n := range 8 {
		t.Run(strconv.Itoa(n), func(t *testing.T) {
			t.Parallel()
			for range 100 {
				own := images()
				for k, a := range wanted {
					want(t, "an image of all", shared[k], a.f, a.at, a.e)
					want(t, "an image of its own", own[k], a.f, a.at, a.e)
				}
			}
		})
	}
}
