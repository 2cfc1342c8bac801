package flow

import (
	"encoding/binary"
	"math/rand"
	"slices"
	"strings"
	"testing"

	"spindle/api"
	"spindle/asm"
	"spindle/image"
	"spindle/isa"
	"spindle/link"
	"spindle/module"
)

// run walks through one function of an image's bytes, slot by slot, as DOC.md says that a step goes on. It knows nothing of instructions' numbers but what it counts itself.
type run struct {
	slots  []byte // the function's part of the text
	chance *rand.Rand
}

// insn gives the instruction at a slot, and how many slots it takes.
func (r run) insn(slot int) (api.Insn, int) {
	b := r.slots[8*slot:]
	i := api.Insn{
		Op: int(b[0]), Dst: int(b[1] & 15), Src: int(b[1] >> 4),
		Off: int(int16(binary.LittleEndian.Uint16(b[2:]))), Imm: int(int32(binary.LittleEndian.Uint32(b[4:]))),
	}
	if i.Op != 0x18 {
		return i, 1
	}
	i.Imm = int(uint64(binary.LittleEndian.Uint32(b[12:]))<<32 | uint64(binary.LittleEndian.Uint32(b[4:])))
	return i, 2
}

// number gives the number of the instruction that begins at a slot; below 0 where none does.
func (r run) number(slot int) int {
	for at, s := 0, 0; s <= len(r.slots)/8; at++ {
		if s == slot {
			return at
		}
		if s == len(r.slots)/8 {
			break
		}
		_, n := r.insn(s)
		s += n
	}
	return -1
}

// step gives the slot behind a step, and whether there is one: the run may have ended, by a fault or an exit. Whether a branch is taken is left to chance.
func (r run) step(slot int) (int, bool) {
	if slot == len(r.slots)/8 {
		return 0, false
	}
	i, n := r.insn(slot)
	if isa.May(i) != api.OK || i.Op == 0x95 {
		return 0, false
	}
	to := slot + 1 + i.Off
	if i.Op == 0x06 {
		to = slot + 1 + i.Imm
	}
	jump, branch := i.Op == 0x05 || i.Op == 0x06, i.Op%8 >= 5 && i.Op%8 <= 6 && i.Op != 0x85
	if at := r.number(to); (jump || branch) && (at < 0 || to == len(r.slots)/8) {
		return 0, false
	}
	if jump || branch && r.chance.Intn(2) == 0 {
		return to, true
	}
	return slot + n, true
}

// checkRun holds a run's steps against the graph: each is in Next, all that is run is Reached, and blocks are entered at the first alone and left at the last.
func checkRun(t *testing.T, g *Graph, f int, r run) {
	t.Helper()
	reached, _ := g.Reached(f)
	blocks := map[int]api.Block{}
	for b := range g.Blocks(f) {
		for at := range b.Count {
			blocks[b.First+at] = b
		}
	}
	slot := 0
	for range 60 {
		at := r.number(slot)
		if at < len(reached) && !reached[at] {
			t.Fatalf("P18.7: instruction %d of function %d is run and not reached", at, f)
		}
		behind, goes := r.step(slot)
		if !goes {
			return
		}
		to := r.number(behind)
		if next, e := g.Next(f, at); e != api.OK || !slices.Contains(next, to) {
			t.Fatalf("P18.8: function %d goes from %d to %d, and Next is %v, %d", f, at, to, next, e)
		}
		b := blocks[at]
		last := at == b.First+b.Count-1
		if last && !slices.Contains(b.Next, to) || !last && to != at+1 || to < len(reached) && (last || to != at+1) && blocks[to].First != to {
			t.Fatalf("P18.4: function %d goes from %d of the block %+v to %d", f, at, b, to)
		}
		slot = behind
	}
}

func checkRuns(t *testing.T, im api.Image, chance *rand.Rand, times int) {
	t.Helper()
	b, _, e := image.Write(im)
	if e != api.OK {
		t.Fatalf("image.Write tells %d", e)
	}
	g := graphOf(t, im)
	text := b[28:]
	for f := range im.Funcs {
		body := readBody(im, f)
		end := 8 * readSlot(body, len(body))
		for range times {
			checkRun(t, g, f, run{text[:end], chance})
		}
		text = text[end:]
	}
	if t.Failed() {
		t.Fatalf("the image: %+v", im)
	}
}

// TestRuns: whatever steps do within a function, the place behind stands in Next.
func TestRuns(t *testing.T) {
	t.Parallel()
	r := rand.New(rand.NewSource(8))
	for range 1500 {
		checkRuns(t, chanceImage(r, 15), r, 8)
	}
	var extend func(f fn)
	extend = func(f fn) {
		if len(f) == 3 {
			checkRuns(t, cut(f), r, 6)
			return
		}
		for _, i := range samples() {
			extend(append(slices.Clip(f), i))
		}
	}
	extend(nil)
}

// texts gives texts that link with the entry m; `|` stands for LF.
func texts() []string {
	return []string{
		".extern g|.global m|.map t array 4 8 2|.func f|exit|.func m|mov r6, 3|loop: call g|lddw r1, 5|jeq r6, 0, out|sub r6, 1|ldmap r2, t|ja loop|out: call f|call 3|exit",
		".global g|.func g|jsgt32 r1, r2, a|ja32 b|lddw r0, 1|a: mov r0, 1|exit|b: call h|jset r0, 4, a|c: jne r0, r1, c|exit|.func h|x: ja x|.func f|call f|exit",
	}
}

// TestLinked: of images that layers 13 and 16 make, branches lead where their labels stand, and calls to the functions of their names.
func TestLinked(t *testing.T) {
	var os []api.Object
	var steps [][]api.Step
	for _, text := range texts() {
		b := []byte(strings.ReplaceAll(text, "|", "\n"))
		o, _, e := asm.Assemble(b)
		m, _, wrong := module.Parse(b)
		if e != api.OK || wrong != api.OK {
			t.Fatalf("%q: %d, %d", text, e, wrong)
		}
		os = append(os, o)
		for _, f := range m.Funcs {
			steps = append(steps, f.Body)
		}
	}
	im, _, e := link.Link(os, "m")
	if e != api.OK {
		t.Fatalf("Link tells %d", e)
	}
	check(t, im)
	g := graphOf(t, im)
	for f, body := range steps {
		for at, s := range body {
			if s.Branch >= 0 {
				wantNext(t, g, f, at, nexts(s.Insn, at, s.Branch), api.OK)
			}
		}
	}
	// The functions: f, m, g, h, f.
	for f, want := range [][]int{nil, {0, 2}, {3}, nil, {4}} {
		wantCalls(t, g, f, want, api.OK)
	}
	for f, want := range []int{1, 3, 2, 1, 0} {
		wantDeepest(t, g, f, want, want == 0, api.OK)
	}
	wantBlocks(t, g, 1, block(0, 1, 1), block(1, 3, 4, 7), block(4, 3, 1), block(7, 3))
	wantBlocks(t, g, 2, block(0, 1, 1, 3), block(1, 1, 5), block(2, 1, 3), block(3, 2), block(5, 2, 3, 7), block(7, 1, 7, 8), block(8, 1))
	wantReached(t, g, 2, truths(true, true, false, true, true, true, true, true, true), api.OK)
	checkRuns(t, im, rand.New(rand.NewSource(16)), 200)
}
