package flow

import (
	"math"
	"math/rand"
	"slices"
	"testing"

	"spindle/api"
	"spindle/isa"
)

// Here graphs are read a second time, by the chapter's words: nothing is kept, each slot, target and way is sought out anew. Layer 2 is asked which instructions may be, and nothing else.

func readMay(i api.Insn) bool { return isa.May(i) == api.OK }

// readSlot gives the slot of an instruction, counted from the function's first.
func readSlot(f fn, at int) int {
	slot := 0
	for _, i := range f[:at] {
		slot++
		if i.Op == 0x18 {
			slot++
		}
	}
	return slot
}

func readJump(i api.Insn) bool { return readMay(i) && (i.Op == 0x05 || i.Op == 0x06) }

func readBranch(i api.Insn) bool {
	class, what := i.Op%8, i.Op/16
	return readMay(i) && (class == 5 || class == 6) && what != 0 && what != 8 && what != 9
}

func readEnd(i api.Insn) bool {
	return !readMay(i) || i.Op == 0x95 || readJump(i) || readBranch(i)
}

// readTarget gives the target of an instruction that has one.
func readTarget(f fn, at int) int {
	far := f[at].Off
	if f[at].Op == 0x06 {
		far = f[at].Imm
	}
	for k := range f {
		if readSlot(f, k) == readSlot(f, at)+1+far {
			return k
		}
	}
	return -1
}

func readNext(f fn, at int) []int {
	switch i := f[at]; {
	case !readMay(i), i.Op == 0x95:
		return nil
	case readJump(i):
		return []int{readTarget(f, at)}
	case readBranch(i):
		target := readTarget(f, at)
		return nexts(i, at, target)
	}
	return []int{at + 1}
}

// readBegins tells whether a block begins at an instruction.
func readBegins(f fn, at int) bool {
	if at == 0 || readEnd(f[at-1]) {
		return true
	}
	for k, i := range f {
		if (readJump(i) || readBranch(i)) && readTarget(f, k) == at {
			return true
		}
	}
	return false
}

func readBlocks(f fn) []api.Block {
	var bs []api.Block
	for at := range f {
		if readBegins(f, at) {
			bs = append(bs, api.Block{First: at})
		}
		b := &bs[len(bs)-1]
		b.Count++
		b.Next = readNext(f, at)
	}
	return bs
}

// readReached adds next places to the set until none is new.
func readReached(f fn) []bool {
	set := make([]bool, len(f))
	set[0] = true
	for grown := true; grown; {
		grown = false
		for at := range f {
			for _, place := range readNext(f, at) {
				if set[at] && place >= 0 && place < len(f) && !set[place] {
					set[place], grown = true, true
				}
			}
		}
	}
	return set
}

func readBody(im api.Image, f int) fn {
	return im.Text[im.Funcs[f].First:][:im.Funcs[f].Count]
}

func readCalls(im api.Image, f int) []int {
	var callees []int
	for g := range im.Funcs {
		if slices.ContainsFunc(readBody(im, f), func(i api.Insn) bool { return i.Op == 0x85 && i.Src == 1 && i.Imm == g && readMay(i) }) {
			callees = append(callees, g)
		}
	}
	return callees
}

// readWays tells from which function which one can be reached over one call or more: first over one, then over ways through the functions 0, 1 and so on.
func readWays(im api.Image) [][]bool {
	ways := make([][]bool, len(im.Funcs))
	for f := range ways {
		ways[f] = make([]bool, len(im.Funcs))
		for _, g := range readCalls(im, f) {
			ways[f][g] = true
		}
	}
	for over := range ways {
		for f := range ways {
			for g := range ways {
				ways[f][g] = ways[f][g] || ways[f][over] && ways[over][g]
			}
		}
	}
	return ways
}

func readDeepest(im api.Image, ways [][]bool, f int) (int, bool) {
	for g := range ways {
		if ways[g][g] && (f == g || ways[f][g]) {
			return 0, true
		}
	}
	deepest := 0
	for _, g := range readCalls(im, f) {
		n, _ := readDeepest(im, ways, g)
		deepest = max(deepest, n)
	}
	return deepest + 1, false
}

// checkFunc holds what is told of one function's instructions against the second reading.
func checkFunc(t *testing.T, g *Graph, number int, f fn) {
	t.Helper()
	slots := make([]int, len(f))
	for at := range f {
		slots[at] = readSlot(f, at)
		wantNext(t, g, number, at, readNext(f, at), api.OK)
	}
	wantSlots(t, g, number, slots, api.OK)
	wantNext(t, g, number, len(f), nil, api.ErrFlowFunc)
	wantNext(t, g, number, -1, nil, api.ErrFlowFunc)
	wantBlocks(t, g, number, readBlocks(f)...)
	wantReached(t, g, number, readReached(f), api.OK)
}

// checkWays holds what is told of calls against the second reading.
func checkWays(t *testing.T, g *Graph, im api.Image) {
	t.Helper()
	ways := readWays(im)
	for f := range im.Funcs {
		wantCalls(t, g, f, readCalls(im, f), api.OK)
		n, circle := readDeepest(im, ways, f)
		wantDeepest(t, g, f, n, circle, api.OK)
	}
}

func check(t *testing.T, im api.Image) {
	t.Helper()
	g := graphOf(t, im)
	for f := range im.Funcs {
		checkFunc(t, g, f, readBody(im, f))
	}
	checkWays(t, g, im)
	if t.Failed() {
		t.Fatalf("the image: %+v", im)
	}
}

// samples gives instructions of all sorts, for functions of a few.
func samples() fn {
	return list(exit(), mov(1), lddw(1), wrong(), wrongWide(), ja(-1), ja(1), ja32(-3), jeq(0), jeq(1), jeq(-2), jeq(2), calls(0), calls(1))
}

// TestAllSmall: all functions of up to four instructions of all sorts.
func TestAllSmall(t *testing.T) {
	t.Parallel()
	var extend func(f fn)
	extend = func(f fn) {
		if len(f) > 0 {
			im := cut(f)
			g := graphOf(t, im)
			checkFunc(t, g, 0, f)
			checkWays(t, g, im)
		}
		if len(f) == 4 || t.Failed() {
			return
		}
		for _, i := range samples() {
			extend(append(slices.Clip(f), i))
		}
	}
	extend(nil)
}

// TestAllCalls: all ways in which up to four functions can call one another.
func TestAllCalls(t *testing.T) {
	t.Parallel()
	for n := 1; n <= 4; n++ {
		for pattern := range 1 << (n * n) {
			fs := make([]fn, n)
			for k := range n * n {
				if pattern>>k&1 == 1 {
					fs[k/n] = append(fs[k/n], calls(k%n))
				}
			}
			for f := range fs {
				fs[f] = append(fs[f], exit())
			}
			im := cut(fs...)
			checkWays(t, graphOf(t, im), im)
			if t.Failed() {
				t.Fatalf("the image: %+v", im)
			}
		}
	}
}

// chanceInsn gives an instruction of chance: one that may be, or one with a field turned.
func chanceInsn(r *rand.Rand, functions int) api.Insn {
	branches := eachBranch()
	var i api.Insn
	switch r.Intn(12) {
	case 0, 1, 2, 3:
		i = leading(branches[r.Intn(len(branches))], r.Intn(41)-20)
	case 4:
		i = leading(branches[r.Intn(2)], r.Intn(41)-20)
	case 5:
		i = calls(r.Intn(functions+2) - 1)
	case 6:
		i = helper(r.Intn(6))
	case 7:
		i = lddw(r.Int())
	case 8:
		i = api.Insn{Op: 0x18, Src: 1, Imm: r.Intn(3)}
	case 9:
		i = api.Insn{Op: isa.Ops()[r.Intn(119)], Dst: r.Intn(11)}
	default:
		i = mov(r.Intn(9))
	}
	switch r.Intn(60) {
	case 0:
		i.Op = r.Intn(256)
	case 1:
		i.Dst = r.Intn(16)
	case 2:
		i.Src = r.Intn(16)
	case 3:
		i.Off = r.Intn(65536) - 32768
	case 4:
		i.Imm = []int{math.MaxInt32, math.MinInt32, 1, -1, r.Intn(100)}[r.Intn(5)]
	case 5:
		i = exit()
	}
	if i.Op != 0x18 {
		i.Imm = int(int32(i.Imm))
	}
	return i
}

func chanceImage(r *rand.Rand, most int) api.Image {
	fs := make([]fn, 1+r.Intn(6))
	for f := range fs {
		for range 1 + r.Intn(most) {
			fs[f] = append(fs[f], chanceInsn(r, len(fs)))
		}
	}
	im := cut(fs...)
	im.Entry = r.Intn(len(fs))
	return im
}

// TestChance: images of chance, short ones and longer ones.
func TestChance(t *testing.T) {
	t.Parallel()
	r := rand.New(rand.NewSource(18))
	for range 6000 {
		check(t, chanceImage(r, 12))
	}
	for range 250 {
		check(t, chanceImage(r, 50))
	}
}

// TestChanceCalls: who calls whom, of more functions, with few calls and with many.
func TestChanceCalls(t *testing.T) {
	t.Parallel()
	r := rand.New(rand.NewSource(180))
	for range 3000 {
		fs := make([]fn, 1+r.Intn(14))
		for range r.Intn(3 * len(fs)) {
			// Most call one behind them, so that there is not always a circle.
			f, to := r.Intn(len(fs)), r.Intn(len(fs))
			if r.Intn(12) > 0 {
				f, to = min(f, to), max(f, to)
			}
			if f != to || r.Intn(8) == 0 {
				fs[f] = append(fs[f], calls(to))
			}
		}
		for f := range fs {
			fs[f] = append(fs[f], exit())
		}
		// The functions stand in any order.
		order := r.Perm(len(fs))
		turned := make([]fn, len(fs))
		for f, body := range fs {
			for k, i := range body {
				if i.Op == 0x85 {
					body[k].Imm = order[i.Imm]
				}
			}
			turned[order[f]] = body
		}
		im := cut(turned...)
		checkWays(t, graphOf(t, im), im)
		if t.Failed() {
			t.Fatalf("the image: %+v", im)
		}
	}
}
