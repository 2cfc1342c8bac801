package flow

import (
	"fmt"
	"math"
	"slices"
	"strconv"
	"testing"

	"spindle/api"
)

// short tells the beginning of an image or an answer, as some are long.
func short(what any) string {
	s := fmt.Sprintf("%+v", what)
	return s[:min(len(s), 400)]
}

func exit() api.Insn           { return api.Insn{Op: 0x95} }
func mov(imm int) api.Insn     { return api.Insn{Op: 0xb7, Imm: imm} }
func lddw(imm int) api.Insn    { return api.Insn{Op: 0x18, Dst: 2, Imm: imm} }
func ja(off int) api.Insn      { return api.Insn{Op: 0x05, Off: off} }
func ja32(imm int) api.Insn    { return api.Insn{Op: 0x06, Imm: imm} }
func jeq(off int) api.Insn     { return api.Insn{Op: 0x15, Dst: 1, Off: off} }
func calls(f int) api.Insn     { return api.Insn{Op: 0x85, Src: 1, Imm: f} }
func helper(n int) api.Insn    { return api.Insn{Op: 0x85, Imm: n} }
func wrong() api.Insn          { return api.Insn{Op: 0x15, Dst: 11, Off: 1} }
func wrongWide() api.Insn      { return api.Insn{Op: 0x18, Src: 2} }
func only(i api.Insn) fn       { return fn{i} }
func copies(n int, i fn) fn    { return slices.Repeat(i, n) }
func joined(parts ...fn) fn    { return slices.Concat(parts...) }
func list(is ...api.Insn) fn   { return is }
func places(ps ...int) []int   { return ps }
func truths(ts ...bool) []bool { return ts }

// fn is the instructions of a function.
type fn = []api.Insn

// cut gives an image of functions f0, f1 and so on.
func cut(fs ...fn) api.Image {
	var im api.Image
	for k, f := range fs {
		im.Funcs = append(im.Funcs, api.ImgFunc{Name: "f" + strconv.Itoa(k), First: len(im.Text), Count: len(f)})
		im.Text = append(im.Text, f...)
	}
	return im
}

// graph gives the graph of functions, which must be an image.
func graph(t *testing.T, fs ...fn) *Graph {
	t.Helper()
	return graphOf(t, cut(fs...))
}

func graphOf(t *testing.T, im api.Image) *Graph {
	t.Helper()
	g, e := New(im)
	if g == nil || e != api.OK {
		t.Fatalf("P18.1: New(%s) = %v, %d, want a graph", short(im), g != nil, e)
	}
	return g
}

func wantSlots(t *testing.T, g *Graph, f int, want []int, wantE api.Errno) {
	t.Helper()
	if s, e := g.Slots(f); !slices.Equal(s, want) || e != wantE {
		t.Errorf("P18.2: Slots(%d) = %s, %d, want %s, %d", f, short(s), e, short(want), wantE)
	}
}

func wantNext(t *testing.T, g *Graph, f, at int, want []int, wantE api.Errno) {
	t.Helper()
	if x, e := g.Next(f, at); !slices.Equal(x, want) || e != wantE {
		t.Errorf("P18.3: Next(%d, %d) = %v, %d, want %v, %d", f, at, x, e, want, wantE)
	}
}

func wantBlocks(t *testing.T, g *Graph, f int, want ...api.Block) {
	t.Helper()
	if bs := slices.Collect(g.Blocks(f)); !slices.EqualFunc(bs, want, sameBlock) {
		t.Errorf("P18.4: Blocks(%d) = %s, want %s", f, short(bs), short(want))
	}
}

func sameBlock(a, b api.Block) bool {
	return a.First == b.First && a.Count == b.Count && slices.Equal(a.Next, b.Next)
}

func block(first, count int, next ...int) api.Block {
	return api.Block{First: first, Count: count, Next: next}
}

func wantCalls(t *testing.T, g *Graph, f int, want []int, wantE api.Errno) {
	t.Helper()
	if c, e := g.Calls(f); !slices.Equal(c, want) || e != wantE {
		t.Errorf("P18.5: Calls(%d) = %s, %d, want %s, %d", f, short(c), e, short(want), wantE)
	}
}

func wantDeepest(t *testing.T, g *Graph, f, want int, wantCircle bool, wantE api.Errno) {
	t.Helper()
	if n, circle, e := g.Deepest(f); n != want || circle != wantCircle || e != wantE {
		t.Errorf("P18.6: Deepest(%d) = %d, %t, %d, want %d, %t, %d", f, n, circle, e, want, wantCircle, wantE)
	}
}

func wantReached(t *testing.T, g *Graph, f int, want []bool, wantE api.Errno) {
	t.Helper()
	if r, e := g.Reached(f); !slices.Equal(r, want) || e != wantE {
		t.Errorf("P18.7: Reached(%d) = %s, %d, want %s, %d", f, short(r), e, short(want), wantE)
	}
}

func TestExamples(t *testing.T) {
	f := func(off int) fn { return list(jeq(off), lddw(5), exit()) }
	g := graph(t, f(2))
	wantSlots(t, g, 0, places(0, 1, 3), api.OK)
	wantSlots(t, g, 1, nil, api.ErrFlowFunc)
	wantSlots(t, g, -1, nil, api.ErrFlowFunc)
	wantNext(t, g, 0, 0, places(1, 2), api.OK)
	wantNext(t, g, 0, 1, places(2), api.OK)
	wantNext(t, g, 0, 2, nil, api.OK)
	wantNext(t, g, 0, 3, nil, api.ErrFlowFunc)
	wantNext(t, graph(t, f(1)), 0, 0, places(-1, 1), api.OK)
	wantNext(t, graph(t, f(0)), 0, 0, places(1), api.OK)
	wantNext(t, graph(t, f(3)), 0, 0, places(-1, 1), api.OK)
	wantBlocks(t, g, 0, block(0, 1, 1, 2), block(1, 1, 2), block(2, 1))
	wantDeepest(t, graph(t, list(calls(0), exit())), 0, 0, true, api.OK)
	wantDeepest(t, graph(t, list(calls(1), exit()), only(exit())), 0, 2, false, api.OK)
	wantDeepest(t, graph(t, only(exit())), 0, 1, false, api.OK)
	wantReached(t, graph(t, list(ja(1), mov(1), exit())), 0, truths(true, false, true), api.OK)
}

// oddNumbers gives numbers that are none of at most a few functions or instructions.
func oddNumbers() []int {
	return []int{-1, -2, 7, 8, 255, 256, 4096, math.MaxInt32, math.MinInt32, 1 << 32, 1<<32 + 1, -1 << 32, math.MaxInt, math.MinInt}
}

// TestNoFunction: beside ErrFlowFunc there are zero values alone, and no block.
func TestNoFunction(t *testing.T) {
	g := graph(t, list(calls(1), exit()), list(jeq(-1), exit()))
	for _, f := range append(oddNumbers(), 2) {
		wantSlots(t, g, f, nil, api.ErrFlowFunc)
		wantNext(t, g, f, 0, nil, api.ErrFlowFunc)
		wantNext(t, g, f, -1, nil, api.ErrFlowFunc)
		wantBlocks(t, g, f)
		wantCalls(t, g, f, nil, api.ErrFlowFunc)
		wantDeepest(t, g, f, 0, false, api.ErrFlowFunc)
		wantReached(t, g, f, nil, api.ErrFlowFunc)
		// Both functions have two instructions, so that the same numbers are none of theirs.
		wantNext(t, g, 0, f, nil, api.ErrFlowFunc)
		wantNext(t, g, 1, f, nil, api.ErrFlowFunc)
	}
}

// TestNilGraph: ErrNil goes ahead of all, and Blocks is never nil.
func TestNilGraph(t *testing.T) {
	var g *Graph
	for _, f := range append(oddNumbers(), 0) {
		wantSlots(t, g, f, nil, api.ErrNil)
		wantNext(t, g, f, 0, nil, api.ErrNil)
		wantNext(t, g, 0, f, nil, api.ErrNil)
		wantCalls(t, g, f, nil, api.ErrNil)
		wantDeepest(t, g, f, 0, false, api.ErrNil)
		wantReached(t, g, f, nil, api.ErrNil)
		if blocks := g.Blocks(f); blocks == nil {
			t.Errorf("P18.4: Blocks(%d) of a nil graph is nil", f)
		}
		wantBlocks(t, g, f)
	}
	if graph(t, only(exit())).Blocks(1) == nil {
		t.Errorf("P18.4: Blocks of no function is nil")
	}
}

// TestNewErrors: each error of layer 17, and no graph beside it.
func TestNewErrors(t *testing.T) {
	turned := func(do func(im *api.Image)) api.Image {
		im := cut(only(exit()), only(exit()))
		im.Tables = []api.TableDef{{Name: "a", Kind: api.TableArray, Key: 4, Value: 1, Entries: 1}}
		do(&im)
		return im
	}
	for _, row := range []struct {
		what string
		im   api.Image
		want api.Errno
	}{
		{"nothing", api.Image{}, api.ErrImageEntry},
		{"too many slots", cut(copies(524289, only(lddw(0)))), api.ErrImageMany},
		{"too many functions", cut(slices.Repeat([]fn{only(exit())}, 4097)...), api.ErrImageMany},
		{"a name", turned(func(im *api.Image) { im.Funcs[1].Name = "" }), api.ErrImageName},
		{"a name twice", turned(func(im *api.Image) { im.Funcs[1].Name = "f0" }), api.ErrImageName},
		{"a function's object", turned(func(im *api.Image) { im.Funcs[1].Object = 64 }), api.ErrImageName},
		{"an empty function", turned(func(im *api.Image) { im.Funcs[1].Count = 0 }), api.ErrImageFunc},
		{"a function beyond the text", turned(func(im *api.Image) { im.Funcs[1].Count = 2 }), api.ErrImageFunc},
		{"a function of very many", turned(func(im *api.Image) { im.Funcs[1].Count = math.MaxInt }), api.ErrImageFunc},
		{"a function ahead of the text", turned(func(im *api.Image) { im.Funcs[0].First = -1 }), api.ErrImageFunc},
		{"functions one over the other", turned(func(im *api.Image) { im.Funcs[1].First = 0 }), api.ErrImageFunc},
		{"an instruction of no function", turned(func(im *api.Image) { im.Text = append(im.Text, exit()) }), api.ErrImageFunc},
		{"a table", turned(func(im *api.Image) { im.Tables[0].Key = 3 }), api.ErrImageTable},
		{"an entry", turned(func(im *api.Image) { im.Entry = 2 }), api.ErrImageEntry},
		{"an instruction too wide", turned(func(im *api.Image) { im.Text[1].Off = 32768 }), api.ErrImageInsn},
		{"a name and an entry", turned(func(im *api.Image) { im.Funcs[0].Name, im.Entry = "-", 9 }), api.ErrImageName},
	} {
		if g, e := New(row.im); g != nil || e != row.want {
			t.Errorf("P18.1: New(%s) = %v, %d, want nil, %d", row.what, g != nil, e, row.want)
		}
	}
	graphOf(t, turned(func(im *api.Image) { im.Entry = 1 }))
}

// TestSlots: slots are counted from the function's first one, and an opcode 0x18 takes two whatever its fields are.
func TestSlots(t *testing.T) {
	g := graph(t,
		list(lddw(1), lddw(2), exit()),
		list(exit(), wrongWide(), exit(), api.Insn{Op: 0x18, Src: 15, Dst: 15, Off: 7, Imm: -1}, mov(1), wrong()),
		only(lddw(-1)),
		list(mov(0x18), exit()))
	wantSlots(t, g, 0, places(0, 2, 4), api.OK)
	wantSlots(t, g, 1, places(0, 1, 3, 4, 6, 7), api.OK)
	wantSlots(t, g, 2, places(0), api.OK)
	wantSlots(t, g, 3, places(0, 1), api.OK)
}

// eachBranch gives each of the 46 instructions with a target, without a distance.
func eachBranch() []api.Insn {
	is := []api.Insn{ja(0), ja32(0)}
	for _, class := range []int{0x05, 0x06} {
		for _, what := range []int{0x10, 0x20, 0x30, 0x40, 0x50, 0x60, 0x70, 0xa0, 0xb0, 0xc0, 0xd0} {
			is = append(is, api.Insn{Op: class + what, Dst: 3, Imm: -5}, api.Insn{Op: class + what + 0x08, Dst: 3, Src: 10})
		}
	}
	return is
}

// leading gives a branch with a distance.
func leading(i api.Insn, far int) api.Insn {
	if i.Op == 0x06 {
		i.Imm = far
	} else {
		i.Off = far
	}
	return i
}

// nexts gives the next places of a branch with a target, rising.
func nexts(i api.Insn, at, target int) []int {
	switch {
	case i.Op == 0x05 || i.Op == 0x06 || target == at+1:
		return []int{target}
	case target < at+1:
		return []int{target, at + 1}
	}
	return []int{at + 1, target}
}

// TestEachBranch: each opcode with a target, each distance, in a function between others.
func TestEachBranch(t *testing.T) {
	others := list(lddw(0), mov(0), mov(0), mov(0), mov(0), exit())
	if n := len(eachBranch()); n != 46 {
		t.Fatalf("%d branches, want 46", n)
	}
	for _, i := range eachBranch() {
		// The slots of the function's instructions: 0, 2, 3, 4, 6.
		for far, target := range map[int]int{
			-6: -1, -5: -1, -4: 0, -3: -1, -2: 1, -1: 2, 0: 3, 1: -1, 2: 4, 3: -1, 4: -1, 32767: -1, -32768: -1,
		} {
			g := graph(t, others, list(lddw(0), mov(0), leading(i, far), lddw(0), exit()), others)
			wantNext(t, g, 1, 2, nexts(i, 2, target), api.OK)
		}
	}
}

// TestFarBranches: the bounds of Off, and of the distance of ja32.
func TestFarBranches(t *testing.T) {
	t.Parallel()
	straight := func(n int) fn { return copies(n, only(mov(0))) }
	for _, i := range eachBranch() {
		f := joined(straight(32767), only(leading(i, 32767)), straight(32768))
		g := graph(t, f)
		wantNext(t, g, 0, 32767, nexts(i, 32767, 65535), api.OK)
		f[32767] = leading(i, -32768)
		wantNext(t, graph(t, f), 0, 32767, nexts(i, 32767, 0), api.OK)
		wantNext(t, graph(t, f[1:]), 0, 32766, nexts(i, 32766, -1), api.OK)
		f[32767] = leading(i, 32767)
		wantNext(t, graph(t, f[:65535]), 0, 32767, nexts(i, 32767, -1), api.OK)
	}
	for far, target := range map[int]int{math.MaxInt32: -1, math.MinInt32: -1, 1 << 16: 65538, -1 << 16: -1, 99997: 99999, 99998: -1, -2: 0, -3: -1, -1: 1} {
		wantNext(t, graph(t, joined(straight(1), only(ja32(far)), straight(99998))), 0, 1, places(target), api.OK)
	}
	g := graph(t, joined(straight(199998), list(ja32(-199999), ja32(-200001))))
	wantNext(t, g, 0, 199998, places(0), api.OK)
	wantNext(t, g, 0, 199999, places(-1), api.OK)
}

// TestNextOfOthers: those without a target go on behind, the last one too; an exit and what may not be do not go on.
func TestNextOfOthers(t *testing.T) {
	for _, i := range []api.Insn{mov(1), lddw(1), helper(1), helper(99), calls(0), calls(99), calls(-1), {Op: 0x18, Src: 1, Imm: 5}, {Op: 0x07, Dst: 10}, {Op: 0x79, Off: 2}, {Op: 0x7a, Off: -1, Imm: 4}, {Op: 0xdb, Off: 1, Imm: 0xf1}, {Op: 0x87}} {
		g := graph(t, list(i, i, i))
		for at := range 3 {
			wantNext(t, g, 0, at, places(at+1), api.OK)
		}
		wantBlocks(t, g, 0, block(0, 3, 3))
		wantReached(t, g, 0, truths(true, true, true), api.OK)
	}
	for _, i := range []api.Insn{
		exit(), wrong(), wrongWide(), {Op: 0}, {Op: 255}, {Op: 0x95, Imm: 1}, {Op: 0x95, Dst: 1}, {Op: 0x05, Off: 0, Imm: 1}, {Op: 0x05, Dst: 1}, {Op: 0x06, Off: 1}, {Op: 0x06, Src: 1},
		{Op: 0x15, Src: 1}, {Op: 0x1d, Src: 1, Imm: 1}, {Op: 0x1d, Src: 11}, {Op: 0x85, Src: 2}, {Op: 0x85, Src: 1, Off: 1}, {Op: 0x85, Dst: 1}, {Op: 0x8d}, {Op: 0x0d}, {Op: 0x0e}, {Op: 0x96}, {Op: 0x86}, {Op: 0x18, Src: 1, Imm: 1 << 31}, {Op: 0x18, Off: 1}, {Op: 0xb7, Off: 1},
	} {
		g := graph(t, list(i, i, i))
		for at := range 3 {
			wantNext(t, g, 0, at, nil, api.OK)
		}
		wantBlocks(t, g, 0, block(0, 1), block(1, 1), block(2, 1))
		wantReached(t, g, 0, truths(true, false, false), api.OK)
	}
}

// TestBlocks: where blocks begin, and where they do not.
func TestBlocks(t *testing.T) {
	g := graph(t,
		// A loop backward, a branch over a wide one, a call that is no end.
		list(mov(1), mov(2), calls(0), helper(1), jeq(-4), lddw(1), ja(1), mov(3), exit()),
		// A target in the midst of what is straight, reached from behind.
		list(mov(1), mov(2), mov(3), mov(4), ja32(-3)),
		// Branches of which the target is none begin no block; what may not be has no target.
		list(mov(1), jeq(9), mov(2), mov(3), api.Insn{Op: 0x05, Off: -2, Dst: 1}, mov(4), mov(5)),
		// A branch to itself, and to the one behind.
		list(mov(1), jeq(-1), jeq(0), mov(1), exit()))
	wantBlocks(t, g, 0, block(0, 1, 1), block(1, 4, 1, 5), block(5, 2, 8), block(7, 1, 8), block(8, 1))
	wantBlocks(t, g, 1, block(0, 2, 2), block(2, 3, 2))
	wantBlocks(t, g, 2, block(0, 2, -1, 2), block(2, 3), block(5, 2, 7))
	wantBlocks(t, g, 3, block(0, 1, 1), block(1, 1, 1, 2), block(2, 1, 3), block(3, 2))
}

// TestCalls: rising, each once, whether reached or not; no helpers, no functions that are none, nothing that may not be.
func TestCalls(t *testing.T) {
	g := graph(t,
		list(calls(4), calls(2), exit(), calls(0), calls(2), calls(4), calls(4)),
		list(helper(1), helper(2), calls(5), calls(-1), calls(math.MaxInt32), calls(math.MinInt32), exit()),
		list(api.Insn{Op: 0x85, Src: 1, Off: 1, Imm: 1}, api.Insn{Op: 0x85, Src: 1, Dst: 1, Imm: 1}, api.Insn{Op: 0x85, Src: 2, Imm: 1}, api.Insn{Op: 0x8d, Src: 1, Imm: 1}, api.Insn{Op: 0x18, Src: 1, Imm: 1}),
		list(ja(1), calls(4), calls(3)),
		list(calls(4), calls(3), calls(2), calls(1), calls(0)))
	wantCalls(t, g, 0, places(0, 2, 4), api.OK)
	wantCalls(t, g, 1, nil, api.OK)
	wantCalls(t, g, 2, nil, api.OK)
	wantCalls(t, g, 3, places(3, 4), api.OK)
	wantCalls(t, g, 4, places(0, 1, 2, 3, 4), api.OK)
}

// TestDeepest: circles that are come to and not stood on, ways that meet again, and the longer of two ways.
func TestDeepest(t *testing.T) {
	to := func(fs ...int) fn {
		var is fn
		for _, f := range fs {
			is = append(is, calls(f))
		}
		return append(is, exit())
	}
	g := graph(t, to(1), to(2), to(3), to(1), to(0), to(6), to())
	for f, want := range []int{0, 0, 0, 0, 0, 2, 1} {
		wantDeepest(t, g, f, want, want == 0, api.OK)
	}
	g = graph(t, to(1, 2), to(3), to(4), to(5), to(3), to())
	for f, want := range []int{5, 3, 4, 2, 3, 1} {
		wantDeepest(t, g, f, want, false, api.OK)
	}
	g = graph(t, to(2, 1), to(), to(1, 3), to(2), to(5, 0), to(1))
	for f, want := range []int{0, 1, 0, 0, 0, 2} {
		wantDeepest(t, g, f, want, want == 0, api.OK)
	}
	// Behind an exit, and to what is no function.
	wantDeepest(t, graph(t, list(exit(), calls(0))), 0, 0, true, api.OK)
	wantDeepest(t, graph(t, list(calls(1), helper(0), exit())), 0, 1, false, api.OK)
}

// TestReached: loops, branches to none, and the end of the function.
func TestReached(t *testing.T) {
	g := graph(t,
		list(ja(-1), exit()),
		list(ja(3), exit(), mov(1), ja(2), ja(-3), exit(), jeq(-6), lddw(1)),
		list(jeq(9), ja(9), exit()),
		list(jeq(1), exit(), wrong(), exit(), exit()),
		list(calls(0), ja32(2), lddw(1), exit()),
		list(ja(1), lddw(1), exit()))
	wantReached(t, g, 0, truths(true, false), api.OK)
	wantReached(t, g, 1, truths(true, true, true, true, true, false, true, true), api.OK)
	wantReached(t, g, 2, truths(true, true, false), api.OK)
	wantReached(t, g, 3, truths(true, true, true, false, false), api.OK)
	wantReached(t, g, 4, truths(true, true, false, true), api.OK)
	wantReached(t, g, 5, truths(true, false, false), api.OK)
}
