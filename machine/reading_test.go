package machine

import (
	"fmt"
	"math"
	"slices"
	"testing"

	"spindle/api"
	"spindle/isa"
)

// checkStep holds a step from a state that may be against the second reading, and gives the state behind it.
func checkStep(t *testing.T, im api.Image, f api.Frozen) api.Frozen {
	t.Helper()
	m := thawed(t, im, f)
	want := plainStep(im, f)
	checkStepped(t, im, m, f, want)
	return want
}

// checkStepped makes a step of a machine that stands as f, and holds what is to be seen then against a state.
func checkStepped(t *testing.T, im api.Image, m *Machine, f, want api.Frozen) {
	t.Helper()
	o, over, e := m.Step()
	g := frozen(t, m)
	if !sameFrozen(g, want) {
		t.Fatalf("A step of %s\nfrom %s\nleads to %s\nand should to %s", next(im, f), short(f), short(g), short(want))
	}
	wantO := api.Outcome{}
	if want.Over {
		wantO = plainOutcome(im, want)
	}
	if !sameOutcome(o, wantO) || over != want.Over || e != api.OK {
		t.Fatalf("P22.2: Step of %s tells %+v, %v, %d, want %+v", next(im, f), o, over, e, wantO)
	}
}

// next tells the instruction that is next.
func next(im api.Image, f api.Frozen) string {
	if f.Over {
		return "nothing"
	}
	alive := f.Frames[len(f.Frames)-1]
	function := im.Funcs[alive.Func]
	if alive.At == function.Count {
		return "the end of a function"
	}
	return fmt.Sprintf("%+v", im.Text[function.First+alive.At])
}

// edges are words at which something changes.
func edges() []uint64 {
	return []uint64{
		0, 1, 2, 3, 7, 8, 31, 32, 33, 63, 64, 65, 0x7f, 0x80, 0xff, 0x100, 0x1234, 0x7fff, 0x8000, 0xffff,
		1<<31 - 1, 1 << 31, 1<<31 + 1, 1<<32 - 2, 1<<32 - 1, 1 << 32, 1<<32 + 1, 1<<32 + 5, 0x8000000080000000, 0xffffffff00000000, 0x1122334455667788, 0x8899aabbccddeeff,
		1<<63 - 1, 1 << 63, 1<<63 + 1, math.MaxUint64 - 7, math.MaxUint64 - 1, math.MaxUint64,
	}
}

// oneFunction gives the image of a function m of these instructions.
func oneFunction(text ...api.Insn) api.Image {
	return api.Image{Text: text, Funcs: []api.ImgFunc{{Name: "m", Count: len(text)}}}
}

// standing gives a state at an instruction of the entry with these registers, but r10.
func standing(t *testing.T, im api.Image, at int, regs ...uint64) api.Frozen {
	t.Helper()
	f, _, e := plainNew(im, api.Job{Fuel: 50, Context: []byte{1, 2, 3, 250, 5, 6, 7, 240, 9, 10, 11, 230}, Draws: []uint64{77}})
	if e != api.OK {
		t.Fatalf("an image that may not be: %d", e)
	}
	f.Frames[0].At = at
	copy(f.Frames[0].Regs[:10], regs)
	for k := range f.Frames[0].Bytes {
		f.Frames[0].Bytes[k] = byte(k*37 + 130)
	}
	return f
}

// TestArithmetic: each arithmetic instruction, with all pairs of edges, from Src and from Imm, and of one register with itself.
func TestArithmetic(t *testing.T) {
	t.Parallel()
	done := map[string]int{}
	for _, op := range isa.Ops() {
		use, _ := isa.Info(op)
		if use.Form != api.FormBinary && use.Form != api.FormUnary {
			continue
		}
		for _, off := range []int{0, 1, 8, 16, 32} {
			for _, imm := range []int{0, 16, 32, 64} {
				i := api.Insn{Op: op, Dst: 3, Off: off, Imm: imm}
				if use.Src {
					i.Src = 4
				}
				if isa.May(i) == api.OK && (imm == 0 || !use.Imm) {
					done[plainMnemonic(i)]++
					checkPairs(t, i, use)
				}
			}
		}
	}
	// 12 in two widths, sdiv and smod in two, five of movs8 and its like, neg in two, nine that order bytes.
	if len(done) != 24+4+5+2+9 {
		t.Errorf("%d arithmetic instructions: %v", len(done), done)
	}
}

// checkPairs makes a step of an arithmetic instruction or a branch from all pairs of edges.
func checkPairs(t *testing.T, i api.Insn, use api.Use) {
	t.Helper()
	im := oneFunction(i, api.Insn{Op: 0x95}, api.Insn{Op: 0x95})
	for _, a := range edges() {
		for _, b := range edges() {
			regs := []uint64{11, 12, 13, a, b, 15, 16, 17, 18, 19}
			if !use.Src && use.Imm {
				im.Text[0].Imm = int(int32(b))
			}
			checkStep(t, im, standing(t, im, 0, regs...))
			if !use.Src && !use.Imm {
				break
			}
		}
		if use.Src {
			same := slices.Clone(im.Text)
			same[0].Src = same[0].Dst
			checkStep(t, oneFunction(same...), standing(t, im, 0, 11, 12, 13, a))
		}
	}
}

// TestBranches: each branch, with all pairs of edges, from Src and from Imm.
func TestBranches(t *testing.T) {
	t.Parallel()
	done := map[string]int{}
	for _, op := range isa.Ops() {
		use, _ := isa.Info(op)
		if use.Form != api.FormBranch {
			continue
		}
		i := api.Insn{Op: op, Dst: 3, Off: 1}
		if use.Src {
			i.Src = 4
		}
		done[plainMnemonic(i)]++
		checkPairs(t, i, use)
	}
	if len(done) != 22 {
		t.Errorf("%d branches: %v", len(done), done)
	}
}

// TestTargets: each branch from each instruction to each slot, in a function with wide instructions that others stand around.
func TestTargets(t *testing.T) {
	t.Parallel()
	exit, wide, junk := api.Insn{Op: 0x95}, api.Insn{Op: 0x18, Imm: -1}, api.Insn{Op: 0x18, Dst: 15}
	for _, body := range [][]api.Insn{
		{exit},
		{exit, exit, exit},
		{wide, exit, wide, wide, exit},
		{exit, wide, exit, junk},
		{wide, wide, wide},
	} {
		for at := range body {
			for off := -12; off <= 12; off++ {
				for _, i := range []api.Insn{{Op: 0x05, Off: off}, {Op: 0x06, Imm: off}, {Op: 0x15, Off: off}, {Op: 0x55, Off: off}} {
					text := slices.Concat([]api.Insn{wide, exit}, body, []api.Insn{exit, wide})
					text[2+at] = i
					im := api.Image{Text: text, Funcs: []api.ImgFunc{{Name: "a", Count: 2}, {Name: "m", First: 2, Count: len(body)}, {Name: "z", First: 2 + len(body), Count: 2}}, Entry: 1}
					checkStep(t, im, checkStep(t, im, standing(t, im, at)))
				}
			}
		}
	}
}

// accessImage has a function of the instruction, and tables whose regions touch nothing.
func accessImage(i api.Insn) api.Image {
	im := oneFunction(i, api.Insn{Op: 0x85, Src: 1, Imm: 0}, api.Insn{Op: 0x95})
	im.Tables = []api.TableDef{{Name: "a", Kind: api.TableArray, Key: 4, Value: 5, Entries: 2}, {Name: "h", Kind: api.TableHash, Key: 2, Value: 8, Entries: 1}}
	return im
}

// borders gives addresses at the borders of all regions, those of two frames that touch, and of none.
func borders() []uint64 {
	var all []uint64
	for _, at := range []uint64{0, 1 << 32, 1<<32 + 12, 2<<32 - 1024, 2<<32 - 512, 2 << 32, 16 << 32, 16<<32 + 16, 17 << 32, 17<<32 + 8, 18 << 32} {
		for by := -9; by <= 9; by++ {
			all = append(all, at+uint64(by))
		}
	}
	return all
}

// twoFrames gives a state with two frames, whose bytes are filled, at the first instruction.
func twoFrames(t *testing.T, im api.Image, regs ...uint64) api.Frozen {
	t.Helper()
	f := plainStep(im, standing(t, im, 1))
	copy(f.Frames[1].Regs[:10], regs)
	for k := range f.Frames[1].Bytes {
		f.Frames[1].Bytes[k] = byte(k*91 + 140)
	}
	for k := range f.Tables {
		for n := range f.Tables[k].Data {
			f.Tables[k].Data[n] = byte(n*53 + 150)
		}
	}
	return f
}

// TestLoadsAndStores: each of them at each border, the address told by the register and by Off.
func TestLoadsAndStores(t *testing.T) {
	t.Parallel()
	done := map[string]int{}
	for _, op := range isa.Ops() {
		use, _ := isa.Info(op)
		if use.Form != api.FormLoad && use.Form != api.FormStore {
			continue
		}
		for _, off := range []int{0, 1, -1, 8, -300, 32767, -32768} {
			i := api.Insn{Op: op, Dst: 3, Off: off}
			if use.Imm {
				i.Imm = -0x12345678
			}
			if use.Src {
				i.Src = 4
			}
			done[plainMnemonic(i)]++
			im := accessImage(i)
			for _, at := range borders() {
				base, x := at-uint64(off), uint64(0x1122334488776655)
				if use.Form == api.FormLoad {
					base, x = x, base
				}
				checkStep(t, im, twoFrames(t, im, 11, 12, 13, base, x, 15, 16, 17, 18, 19))
			}
		}
	}
	if len(done) != 15 {
		t.Errorf("%d loads and stores: %v", len(done), done)
	}
}

// TestStored: what is stored from Imm, with its sign, and from the register that is the address too.
func TestStored(t *testing.T) {
	t.Parallel()
	for _, op := range []int{0x72, 0x6a, 0x62, 0x7a} {
		for _, imm := range []int{0, 1, -1, 255, 256, -256, 65535, 65536, math.MaxInt32, math.MinInt32} {
			im := accessImage(api.Insn{Op: op, Dst: 10, Off: -8, Imm: imm})
			checkStep(t, im, twoFrames(t, im))
		}
	}
	for _, op := range []int{0x73, 0x6b, 0x63, 0x7b} {
		im := accessImage(api.Insn{Op: op, Dst: 5, Src: 5, Off: -1})
		checkStep(t, im, twoFrames(t, im, 0, 0, 0, 0, 0, 1<<32+1))
		im = accessImage(api.Insn{Op: op, Dst: 10, Src: 10, Off: -8})
		checkStep(t, im, twoFrames(t, im))
	}
	for _, op := range []int{0x71, 0x69, 0x61, 0x79, 0x91, 0x89, 0x81} {
		im := accessImage(api.Insn{Op: op, Dst: 5, Src: 5, Off: 3})
		checkStep(t, im, twoFrames(t, im, 0, 0, 0, 0, 0, 1<<32))
	}
}

// TestAtomics: each of them with all edges there and in Src, with r0 that is and is not what is there; at each border; and with one register in several places.
func TestAtomics(t *testing.T) {
	t.Parallel()
	done := map[string]int{}
	for _, op := range []int{0xdb, 0xc3} {
		for _, imm := range []int{0x00, 0x40, 0x50, 0xa0, 0x01, 0x41, 0x51, 0xa1, 0xe1, 0xf1} {
			i := api.Insn{Op: op, Dst: 3, Src: 4, Off: -5, Imm: imm}
			done[plainMnemonic(i)]++
			im := accessImage(i)
			for _, at := range borders() {
				checkStep(t, im, twoFrames(t, im, 11, 12, 13, at+5, 0x1122334488776655))
			}
			for _, was := range edges() {
				for _, with := range edges() {
					for _, r0 := range []uint64{was, with, was ^ 1<<32, was ^ 1, was & (1<<32 - 1), 0} {
						f := twoFrames(t, im, r0, 12, 13, 1<<32+6, with)
						plainLay(f.Context[1:9], was)
						checkStep(t, im, f)
					}
				}
			}
			for _, regs := range [][2]int{{3, 3}, {0, 0}, {3, 0}, {0, 3}, {10, 3}, {10, 0}, {10, 10}, {3, 10}} {
				im := accessImage(api.Insn{Op: op, Dst: regs[0], Src: regs[1], Off: -16, Imm: imm})
				for _, r0 := range []uint64{1<<32 + 16, 0x0807060504030201, 0} {
					checkStep(t, im, twoFrames(t, im, r0, 0, 0, 1<<32+17))
				}
			}
		}
	}
	if len(done) != 20 {
		t.Errorf("%d atomics: %v", len(done), done)
	}
}

// TestWide: lddw of all numbers, ldmap of each table.
func TestWide(t *testing.T) {
	t.Parallel()
	for _, x := range edges() {
		im := accessImage(api.Insn{Op: 0x18, Dst: 9, Imm: int(x)})
		checkStep(t, im, twoFrames(t, im))
	}
	for imm := -2; imm <= 3; imm++ {
		im := accessImage(api.Insn{Op: 0x18, Dst: 9, Src: 1, Imm: imm})
		checkStep(t, im, twoFrames(t, im))
	}
}

// TestEveryInsn: instructions that may be and that may not be, with registers and numbers of many kinds.
func TestEveryInsn(t *testing.T) {
	t.Parallel()
	for op := range 256 {
		for _, dst := range []int{0, 1, 9, 10, 11, 15} {
			for _, src := range []int{0, 1, 2, 10, 11} {
				for _, off := range []int{-32768, -1, 0, 1, 2, 8, 16, 32} {
					for _, imm := range []int{math.MinInt32, -1, 0, 1, 2, 3, 4, 5, 16, 0x40, 0xe1, 0xf1} {
						if chosen := (op*31 + dst*17 + src*13 + off*11 + imm*7) % 5; chosen != 0 && isa.May(api.Insn{Op: op, Dst: dst, Src: src, Off: off, Imm: imm}) != api.OK {
							continue
						}
						im := accessImage(api.Insn{Op: op, Dst: dst, Src: src, Off: off, Imm: imm})
						checkStep(t, im, twoFrames(t, im, 3, 16<<32, 1<<32+4, 5, 6, 7, 8, 9, 10, 11))
					}
				}
			}
		}
	}
}

// TestHelpers: each helper with handles that are some and that are none, keys and values at the borders, flags of all kinds; of an array, of a hash that is empty, that has room and that has none.
func TestHelpers(t *testing.T) {
	t.Parallel()
	answers := map[string]int{}
	for helper := 1; helper <= 4; helper++ {
		im := accessImage(api.Insn{Op: 0x85, Imm: helper})
		im.Tables = append(im.Tables, api.TableDef{Name: "i", Kind: api.TableHash, Key: 1, Value: 9, Entries: 2})
		for _, handle := range []uint64{0, 1 << 32, 15 << 32, 16 << 32, 16<<32 + 1, 16<<32 - 1, 17 << 32, 17<<32 + 8, 18 << 32, 18<<32 + 1<<31, 19 << 32, math.MaxUint64, 1 << 36 * 3} {
			for _, key := range []uint64{0, 1 << 32, 1<<32 + 8, 1<<32 + 9, 1<<32 + 10, 1<<32 + 11, 1<<32 + 12, 2<<32 - 512, 2<<32 - 513, 2<<32 - 1, 16 << 32, 17<<32 + 7} {
				for _, value := range []uint64{0, 1 << 32, 1<<32 + 3, 1<<32 + 4, 1<<32 + 5, 16<<32 + 8, 18 << 32, 18<<32 + 8} {
					for _, flags := range []uint64{0, 1, 2, 3, 1 << 32, math.MaxUint64} {
						for _, f := range helperStates(twoFrames(t, im, 99, handle, key, value, flags, 98, 97)) {
							g := checkStep(t, im, f)
							if !g.Over {
								answers[fmt.Sprint(helper, ": ", int(g.Frames[1].Regs[0])>>32, " ", int(int32(g.Frames[1].Regs[0])))]++
							}
						}
						if helper != 2 {
							break
						}
					}
				}
			}
		}
	}
	for _, want := range []string{"1: 0 0", "1: 16 8", "1: 17 0", "1: 18 16", "1: -1 -22", "2: 0 0", "2: -1 -2", "2: -1 -7", "2: -1 -17", "2: -1 -22", "3: 0 77", "4: 0 0", "4: -1 -2", "4: -1 -22"} {
		if answers[want] == 0 {
			t.Errorf("no helper answered %s: %v", want, answers)
		}
	}
}

// helperStates gives a state with the tables of TestHelpers filled in several ways; keys that the context has are among theirs.
func helperStates(f api.Frozen) []api.Frozen {
	var all []api.Frozen
	for n := range 4 {
		g := copyFrozen(f)
		copy(g.Context, []byte{1, 0, 0, 0, 2, 0, 0, 0, 1, 0, 0, 0})
		g.Entries = []api.Contents{{Table: "h"}, {Table: "i"}}
		switch n {
		case 1:
			g.Entries[0].Entries = []api.Entry{{Key: []byte{0, 0}}}
			g.Entries[1].Entries = []api.Entry{{Key: []byte{2}, Place: 1}}
		case 2:
			g.Entries[0].Entries = []api.Entry{{Key: []byte{9, 9}}}
			g.Entries[1].Entries = []api.Entry{{Key: []byte{9}, Place: 0}, {Key: []byte{1}, Place: 1}}
			g.Used = 1
		case 3:
			g.Entries[1].Entries = []api.Entry{{Key: []byte{1}, Place: 0}}
			g.Used = 7
		}
		all = append(all, g)
	}
	return all
}

// TestCallsAndExits: from each depth, with registers that are all filled.
func TestCallsAndExits(t *testing.T) {
	t.Parallel()
	im := oneFunction(api.Insn{Op: 0x85, Src: 1, Imm: 1}, api.Insn{Op: 0x95}, api.Insn{Op: 0x85, Src: 1, Imm: 1}, api.Insn{Op: 0xb7, Dst: 7, Imm: 5})
	im.Funcs[0].Count = 2
	im.Funcs = append(im.Funcs, api.ImgFunc{Name: "m", Object: 1, First: 2, Count: 2})
	f := standing(t, im, 0)
	for range 9 {
		alive := &f.Frames[len(f.Frames)-1]
		for k := range 10 {
			alive.Regs[k] = uint64(100*len(f.Frames) + k)
		}
		for k := range alive.Bytes {
			alive.Bytes[k] = byte(k + len(f.Frames))
		}
		g := checkStep(t, im, f)
		if g.Over {
			break
		}
		f = g
	}
	if len(f.Frames) != 8 {
		t.Fatalf("%d frames, want 8", len(f.Frames))
	}
	im.Text[3] = api.Insn{Op: 0x95}
	for n := 8; n > 0; n-- {
		f.Frames[n-1].At = 1
		if f = checkStep(t, im, f); len(f.Frames) != n-1 {
			t.Fatalf("%d frames behind an exit, want %d", len(f.Frames), n-1)
		}
	}
}
