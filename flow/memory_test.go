package flow

import (
	"reflect"
	"slices"
	"strconv"
	"testing"

	"spindle/api"
)

// whole gives an image that has everything.
func whole() api.Image {
	im := cut(
		list(calls(1), jeq(2), lddw(1), calls(2), ja(-6), exit()),
		list(jeq(9), calls(2), calls(3), wrong(), exit()),
		list(mov(1), exit()),
		list(calls(3), ja32(-2)))
	im.Tables = []api.TableDef{{Name: "a", Kind: api.TableArray, Key: 4, Value: 1, Entries: 1}}
	im.Entry = 1
	return im
}

// answers gives all that a graph tells.
func answers(g *Graph) []any {
	var all []any
	for f := -1; f < 6; f++ {
		slots, e := g.Slots(f)
		all = append(all, slots, e)
		for at := -1; at < 8; at++ {
			next, e := g.Next(f, at)
			all = append(all, next, e)
		}
		callees, e := g.Calls(f)
		all = append(all, callees, e, slices.Collect(g.Blocks(f)))
		n, circle, e := g.Deepest(f)
		reached, wrong := g.Reached(f)
		all = append(all, n, circle, e, reached, wrong)
	}
	return all
}

func wantAnswers(t *testing.T, what string, g *Graph, want []any) {
	t.Helper()
	if have := answers(g); !reflect.DeepEqual(have, want) {
		t.Errorf("R4: %s: %s, want %s", what, short(have), short(want))
	}
}

func TestWhole(t *testing.T) {
	check(t, whole())
}

// roomy gives a list with the same items, and spare room behind them that is filled with an item.
func roomy[E any](list []E, filler E) []E {
	wider := append(slices.Clone(list), slices.Repeat([]E{filler}, 3)...)
	return wider[:len(list)]
}

// allOf gives a list with its spare room.
func allOf[E any](list []E) []E { return slices.Clone(list[:cap(list)]) }

// TestImageIsLeft: neither the image nor its spare room is changed, looked at or kept.
func TestImageIsLeft(t *testing.T) {
	plain := whole()
	im := api.Image{Text: roomy(plain.Text, jeq(1)), Funcs: roomy(plain.Funcs, api.ImgFunc{Name: "room", First: len(plain.Text), Count: 1}), Tables: roomy(plain.Tables, api.TableDef{Name: "b"}), Entry: 1}
	state := func() []any { return []any{allOf(im.Text), allOf(im.Funcs), allOf(im.Tables), im.Entry} }
	before, want := state(), answers(graphOf(t, plain))
	g := graphOf(t, im)
	wantAnswers(t, "an image with spare room", g, want)
	if after := state(); !reflect.DeepEqual(before, after) {
		t.Errorf("R4: %s is %s now", short(before), short(after))
	}
	blocks := g.Blocks(0)
	wantBlocks := slices.Collect(blocks)
	for k := range im.Text {
		im.Text[k] = mov(7)
	}
	clear(im.Funcs)
	wantAnswers(t, "an image that is written over behind New", g, want)
	if have := slices.Collect(blocks); !reflect.DeepEqual(have, wantBlocks) {
		t.Errorf("R8: Blocks = %+v behind writes into the image, want %+v", have, wantBlocks)
	}
}

// spoil writes over a list and its spare room.
func spoil[E any](list []E, filler E) {
	for k := range list[:cap(list)] {
		list[:cap(list)][k] = filler
	}
}

// spoilAnswers writes over all that is told of a function.
func spoilAnswers(g *Graph, f int, is bool) {
	slots, _ := g.Slots(f)
	callees, _ := g.Calls(f)
	reached, _ := g.Reached(f)
	spoil(slots, 77)
	spoil(callees, 77)
	spoil(reached, is)
	for b := range g.Blocks(f) {
		spoil(b.Next, 77)
	}
}

// TestAnswersAreNew: whoever writes into an answer changes neither the graph nor another answer.
func TestAnswersAreNew(t *testing.T) {
	g := graphOf(t, whole())
	// Answers of another graph: those of g itself might share its memory, and be spoilt along with it.
	want := answers(graphOf(t, whole()))
	for f := range 4 {
		for at := range 6 {
			first, _ := g.Next(f, at)
			second, _ := g.Next(f, at)
			kept := slices.Clone(second)
			spoil(first, 77)
			if !slices.Equal(second, kept) {
				t.Errorf("R4: two answers of Next(%d, %d) share memory", f, at)
			}
		}
	}
	kept := answers(g)
	for f := range 4 {
		spoilAnswers(g, f, f%2 == 0)
		wantAnswers(t, "behind writes into answers", g, want)
	}
	if !reflect.DeepEqual(kept, want) {
		t.Errorf("R4: answers share memory: %s", short(kept))
	}
}

// TestBlocksOfOneTurn: no two blocks of one turn share memory, nor do those of two turns.
func TestBlocksOfOneTurn(t *testing.T) {
	g := graph(t, list(jeq(1), jeq(-1), jeq(-2), exit()))
	want := []api.Block{block(0, 1, 1, 2), block(1, 1, 1, 2), block(2, 1, 1, 3), block(3, 1)}
	blocks := g.Blocks(0)
	var kept []api.Block
	for b := range blocks {
		// Who appends to one list does not write into another.
		_ = append(b.Next, 9, 9, 9, 9)
		kept = append(kept, b)
	}
	for k := range kept {
		spoil(kept[k].Next, 50+k)
	}
	for k, b := range kept[:3] {
		if !slices.Equal(b.Next, []int{50 + k, 50 + k}) {
			t.Errorf("P18.4: the blocks of one turn share memory: %+v", kept)
		}
	}
	if again := slices.Collect(blocks); !slices.EqualFunc(again, want, sameBlock) {
		t.Errorf("P18.4: Blocks = %+v behind writes, want %+v", again, want)
	}
}

// TestTurns: the blocks are gone over again, left early at each place, and nested.
func TestTurns(t *testing.T) {
	g := graphOf(t, whole())
	for f := range 4 {
		blocks := g.Blocks(f)
		want := slices.Collect(g.Blocks(f))
		for stop := range len(want) + 1 {
			var have []api.Block
			for b := range blocks {
				if len(have) == stop {
					break
				}
				have = append(have, b)
			}
			if !slices.EqualFunc(have, want[:stop], sameBlock) {
				t.Errorf("R8: Blocks(%d) left behind %d are %+v, want %+v", f, stop, have, want[:stop])
			}
		}
		turns := 0
		for outer := range blocks {
			if !sameBlock(outer, want[turns]) {
				t.Errorf("R8: Blocks(%d) gives %+v outside, want %+v", f, outer, want[turns])
			}
			turns++
			if have := slices.Collect(blocks); !slices.EqualFunc(have, want, sameBlock) {
				t.Errorf("R8: Blocks(%d) nested are %+v, want %+v", f, have, want)
			}
		}
		if turns != len(want) {
			t.Errorf("R8: Blocks(%d) gives %d with turns nested, want %d", f, turns, len(want))
		}
	}
}

// TestTwoGraphs: graphs have nothing to do with each other, and the order of calls turns nothing.
func TestTwoGraphs(t *testing.T) {
	first := graphOf(t, whole())
	want := answers(first)
	second := graph(t, only(exit()))
	wantSecond := answers(second)
	wantAnswers(t, "the first of two graphs", first, want)
	wantAnswers(t, "the same image again", graphOf(t, whole()), want)
	for f := 3; f >= 0; f-- {
		first.Deepest(f)
		first.Reached(f)
	}
	wantAnswers(t, "asked in another order", first, want)
	wantAnswers(t, "the second of two graphs", second, wantSecond)
}

// TestEmptyTables: nil and empty lists are one.
func TestEmptyTables(t *testing.T) {
	im := cut(only(exit()))
	want := answers(graphOf(t, im))
	im.Tables = []api.TableDef{}
	wantAnswers(t, "an empty list of tables", graphOf(t, im), want)
	for _, im := range []api.Image{{}, {Text: []api.Insn{}, Funcs: []api.ImgFunc{}, Tables: []api.TableDef{}}} {
		if g, e := New(im); g != nil || e != api.ErrImageEntry {
			t.Errorf("R1: New(nothing) = %v, %d, want nil, ErrImageEntry", g != nil, e)
		}
	}
}

// TestEntryAndNames: neither the entry nor names, objects and tables turn anything.
func TestEntryAndNames(t *testing.T) {
	want := answers(graphOf(t, whole()))
	im := whole()
	for f := range im.Funcs {
		im.Entry = f
		wantAnswers(t, "another entry", graphOf(t, im), want)
		im.Funcs[f].Name, im.Funcs[f].Object = "same", f
	}
	im.Tables = nil
	wantAnswers(t, "other names", graphOf(t, im), want)
}

// TestSideBySide: one graph is asked by many at one time.
func TestSideBySide(t *testing.T) {
	g := graphOf(t, whole())
	want := answers(g)
	for n := range 8 {
		t.Run(strconv.Itoa(n), func(t *testing.T) {
			t.Parallel()
			for range 100 {
				wantAnswers(t, "side by side", g, want)
				wantAnswers(t, "a graph of its own", graphOf(t, whole()), want)
			}
		})
	}
}
