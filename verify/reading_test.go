package verify

import (
	"math"
	"math/rand"
	"slices"
	"testing"

	"spindle/api"
	"spindle/image"
	"spindle/isa"
)

// Here images are read a second time, by the chapter's words: nothing is kept, each slot and each way is sought out anew. Layer 17 is asked whether an image may be, and layer 2 whether an instruction may be, and nothing else.

func readMay(i api.Insn) bool { return isa.May(i) == api.OK }

// readSlot gives the slot of an instruction, counted from the beginning of its function.
func readSlot(f fn, at int) int {
	slot := 0
	for _, i := range f[:at] {
		slot++
		if i.Op == 0x18 {
			slot++
		}
	}
	return slot
}

// readLeads tells whether an instruction that may be is a branch, a jump too.
func readLeads(i api.Insn) bool {
	class, what := i.Op%8, i.Op/16
	return (class == 5 || class == 6) && what != 8 && what != 9
}

func readTargetIsNone(f fn, at int) bool {
	far := f[at].Off
	if f[at].Op == 0x06 {
		far = f[at].Imm
	}
	for k := range f {
		if readSlot(f, k) == readSlot(f, at)+1+far {
			return false
		}
	}
	return true
}

// readWrites tells whether an instruction that may be writes a register.
func readWrites(i api.Insn, r int) bool {
	switch i.Op % 8 {
	case 0, 1, 4, 7:
		return i.Dst == r
	case 3:
		atomic := i.Op == 0xdb || i.Op == 0xc3
		return atomic && i.Imm == 0xf1 && r == 0 || atomic && i.Imm%2 == 1 && i.Imm != 0xf1 && i.Src == r
	}
	return i.Op == 0x85 && r <= 5
}

// readRule gives the error of the first of the rules 1 to 7 that an instruction of a function breaks.
func readRule(im api.Image, f fn, at int) api.Errno {
	i := f[at]
	call := i.Op == 0x85
	switch {
	case !readMay(i):
		return api.ErrVerifyInsn
	case readLeads(i) && readTargetIsNone(f, at):
		return api.ErrVerifyTarget
	case at+1 == len(f) && i.Op != 0x05 && i.Op != 0x06 && i.Op != 0x95:
		return api.ErrVerifyFall
	case readWrites(i, 10):
		return api.ErrVerifyWrite
	case call && i.Src == 1 && (i.Imm < 0 || i.Imm >= len(im.Funcs)):
		return api.ErrVerifyCall
	case i.Op == 0x18 && i.Src == 1 && (i.Imm < 0 || i.Imm >= len(im.Tables)):
		return api.ErrVerifyTable
	case call && i.Src == 0 && i.Imm != 1 && i.Imm != 2 && i.Imm != 3 && i.Imm != 4:
		return api.ErrVerifyHelper
	}
	return api.OK
}

func readBody(im api.Image, f int) fn {
	return im.Text[im.Funcs[f].First:][:im.Funcs[f].Count]
}

// readDeep tells of each function whether a way of calls from it has nine functions: of one each has one, and of one more whoever calls a function that has one.
func readDeep(im api.Image) []bool {
	has := slices.Repeat([]bool{true}, len(im.Funcs))
	for range 8 {
		more := make([]bool, len(has))
		for f := range has {
			more[f] = slices.ContainsFunc(readBody(im, f), func(i api.Insn) bool { return i.Op == 0x85 && i.Src == 1 && has[i.Imm] })
		}
		has = more
	}
	return has
}

// readFirst gives the first of the functions of which something holds, or -1.
func readFirst(im api.Image, holds func(f int) bool) int {
	first := -1
	for f, g := range im.Funcs {
		if !holds(f) {
			continue
		}
		if first < 0 || g.Name < im.Funcs[first].Name || g.Name == im.Funcs[first].Name && g.Object < im.Funcs[first].Object {
			first = f
		}
	}
	return first
}

func readCheck(im api.Image) answer {
	if _, e := image.Check(im); e != api.OK {
		return answer{e: api.ErrVerifyImage}
	}
	broken := func(f int) int {
		body := readBody(im, f)
		for at := range body {
			if readRule(im, body, at) != api.OK {
				return at
			}
		}
		return -1
	}
	if f := readFirst(im, func(f int) bool { return broken(f) >= 0 }); f >= 0 {
		at := broken(f)
		return answer{f, at, readRule(im, readBody(im, f), at)}
	}
	deep := readDeep(im)
	if f := readFirst(im, func(f int) bool { return deep[f] }); f >= 0 {
		return answer{f, 0, api.ErrVerifyDeep}
	}
	return answer{}
}

// check holds Check and Why against the second reading.
func check(t *testing.T, im api.Image) answer {
	t.Helper()
	have, wanted := checked(im), readCheck(im)
	if have != wanted {
		t.Fatalf("P19.1: Check = %+v, want %+v; the image: %s", have, wanted, short(im))
	}
	wantWhy(t, "against the second reading", im, wanted)
	if t.Failed() {
		t.FailNow()
	}
	return have
}

// TestEachInsn: every opcode with fields at and beside their bounds, ahead of an exit and as the last one.
func TestEachInsn(t *testing.T) {
	t.Parallel()
	for op := range 256 {
		for _, dst := range []int{0, 1, 10, 11} {
			for _, src := range []int{0, 1, 2, 10, 11} {
				for _, off := range []int{-2, -1, 0, 1, 8, 16, 32, 32767} {
					for _, imm := range []int{-1, 0, 1, 4, 5, 16, 0x41, 0xe1, 0xf1} {
						i := api.Insn{Op: op, Dst: dst, Src: src, Off: off, Imm: imm}
						check(t, tabled(cut(list(mov(0), i, exit())), 1))
						if off%16 == 0 || imm < 2 {
							check(t, tabled(cut(list(mov(0), i)), 1))
						}
					}
				}
			}
		}
	}
}

// samples gives instructions of all sorts, for functions of a few.
func samples() fn {
	return list(exit(), mov(1), lddw(1), wrong(), wrongWide(), ja(-1), ja(1), ja32(-3), jeq(0), jeq(-2), jeq(2), calls(0), calls(1), top(), ldmap(0), ldmap(1), helper(4), helper(5))
}

// TestAllSmall: all functions of up to four instructions of all sorts.
func TestAllSmall(t *testing.T) {
	t.Parallel()
	told := map[api.Errno]int{}
	var extend func(f fn)
	extend = func(f fn) {
		if len(f) > 0 {
			told[check(t, tabled(cut(f), 1)).e]++
		}
		if len(f) == 4 {
			return
		}
		for _, i := range samples() {
			extend(append(slices.Clip(f), i))
		}
	}
	extend(nil)
	if len(told) != 9 {
		t.Errorf("told %v, want all but ErrVerifyImage", told)
	}
}

// TestAllPairs: all images of two functions of up to two instructions.
func TestAllPairs(t *testing.T) {
	t.Parallel()
	var fs []fn
	for _, i := range samples() {
		fs = append(fs, list(i), list(i, exit()), list(i, ja(-2)), list(exit(), i))
	}
	for _, f := range fs {
		for _, g := range fs {
			for _, names := range []string{"a b", "b a"} {
				check(t, called(names, f, g))
			}
		}
	}
}

// TestAllCalls: all ways in which up to four functions can call one another.
func TestAllCalls(t *testing.T) {
	t.Parallel()
	for n := 1; n <= 4; n++ {
		for pattern := range 1 << (n * n) {
			fs := make([]fn, n)
			for k := range n * n {
				if pattern>>k&1 == 1 {
					fs[k/n] = append(fs[k/n], calls(k%n))
				}
			}
			for f := range fs {
				fs[f] = append(fs[f], exit())
			}
			check(t, called([]string{"a b c d", "d c b a", "b d a c"}[pattern%3], fs...))
		}
	}
}

// chanceInsn gives an instruction of chance: one that may be, or one with a field turned.
func chanceInsn(r *rand.Rand, functions int) api.Insn {
	branches := eachBranch()
	i := mov(r.Intn(9))
	switch r.Intn(12) {
	case 0, 1:
		i = leading(branches[r.Intn(len(branches))], r.Intn(13)-6)
	case 2:
		i = leading(branches[r.Intn(2)], r.Intn(13)-6)
	case 3, 4:
		i = calls(r.Intn(functions+1) - r.Intn(8)/7)
	case 5:
		i = helper(r.Intn(5) + r.Intn(2))
	case 6:
		i = lddw(r.Int())
	case 7:
		i = ldmap(r.Intn(3))
	case 8:
		i = api.Insn{Op: isa.Ops()[r.Intn(119)], Dst: r.Intn(11), Imm: r.Intn(3)}
	case 9:
		i = api.Insn{Op: []int{0xdb, 0xc3}[r.Intn(2)], Dst: 1, Src: 1 + r.Intn(10), Imm: []int{0, 1, 0x40, 0x41, 0xe1, 0xf1}[r.Intn(6)]}
	}
	switch r.Intn(80) {
	case 0:
		i.Op = r.Intn(256)
	case 1:
		i.Dst = r.Intn(16)
	case 2:
		i.Src = r.Intn(16)
	case 3:
		i.Off = r.Intn(65536) - 32768
	case 4:
		i.Imm = []int{math.MaxInt32, math.MinInt32, 5, -1, r.Intn(100)}[r.Intn(5)]
	}
	if i.Op != 0x18 {
		i.Imm = int(int32(i.Imm))
	}
	return i
}

// chanceImage gives an image of up to so many functions, each of up to so many instructions.
func chanceImage(r *rand.Rand, functions, most int) api.Image {
	fs := make([]fn, 1+r.Intn(functions))
	for f := range fs {
		for range r.Intn(most) {
			fs[f] = append(fs[f], chanceInsn(r, len(fs)))
		}
		fs[f] = append(fs[f], list(exit(), exit(), ja(-1), ja32(-1), chanceInsn(r, len(fs)))[r.Intn(5)])
	}
	im := tabled(cut(fs...), r.Intn(3))
	im.Entry = r.Intn(len(fs))
	// No two have one name and one object, and many have one name.
	for f, k := range r.Perm(len(fs)) {
		im.Funcs[f].Name, im.Funcs[f].Object = []string{"a", "b", "a0"}[k%3], k/3*7
	}
	return im
}

// mended gives an image of which each instruction that Check tells is put right, and each call of a function that it tells to be too deep.
func mended(t *testing.T, im api.Image) api.Image {
	t.Helper()
	im.Text = slices.Clone(im.Text)
	// An instruction may be told twice: a branch that is put right may be the last one.
	for range 2*len(im.Text) + len(im.Funcs) + 1 {
		a := checked(im)
		body := readBody(im, a.f)
		switch {
		case a.e == api.OK:
			return im
		case a.e == api.ErrVerifyDeep:
			for at, i := range body {
				if i.Op == 0x85 && i.Src == 1 {
					body[at] = mov(0)
				}
			}
		case a.e == api.ErrVerifyTarget:
			body[a.at] = leading(body[a.at], -1)
		case a.at+1 == len(body):
			body[a.at] = exit()
		case body[a.at].Op == 0x18:
			// It keeps its slots, so that no branch comes to lead elsewhere.
			body[a.at] = lddw(0)
		default:
			body[a.at] = mov(0)
		}
	}
	t.Fatalf("P19.1: Check tells %+v when all that it told is put right; the image: %s", checked(im), short(im))
	return im
}

// TestChance: images of chance, as they come and put right step by step.
func TestChance(t *testing.T) {
	t.Parallel()
	r := rand.New(rand.NewSource(19))
	told := map[api.Errno]int{}
	for range 16000 {
		im := chanceImage(r, 6, 8)
		told[check(t, im).e]++
		check(t, mended(t, im))
		if r.Intn(20) == 0 {
			im.Entry = []int{-1, len(im.Funcs), math.MaxInt}[r.Intn(3)]
			told[check(t, im).e]++
		}
	}
	for e := api.ErrVerifyImage; e <= api.ErrVerifyDeep; e++ {
		if told[e] < 200 {
			t.Errorf("only %d images were %d: %v", told[e], e, told)
		}
	}
	if told[api.OK] < 200 {
		t.Errorf("only %d images were right", told[api.OK])
	}
}

// chanceCalls gives functions that call one another, of which most call one behind them, so that there is not always a circle.
func chanceCalls(r *rand.Rand) api.Image {
	fs := make([]fn, 1+r.Intn(24))
	for range r.Intn(2 * len(fs)) {
		f, to := r.Intn(len(fs)), r.Intn(len(fs))
		if r.Intn(30) > 0 {
			f, to = min(f, to), max(f, to)
		}
		if r.Intn(3) == 0 {
			to = min(f+1, len(fs)-1)
		}
		if f != to {
			fs[f] = append(fs[f], calls(to))
		}
	}
	for f := range fs {
		fs[f] = append(fs[f], exit())
	}
	im := cut(fs...)
	for f, k := range r.Perm(len(fs)) {
		im.Funcs[f].Name = string(rune('a' + k))
	}
	return im
}

// TestChanceCalls: who calls whom, of more functions.
func TestChanceCalls(t *testing.T) {
	t.Parallel()
	r := rand.New(rand.NewSource(190))
	told := map[api.Errno]int{}
	for range 20000 {
		im := chanceCalls(r)
		told[check(t, im).e]++
		check(t, mended(t, im))
	}
	if told[api.OK] < 1000 || told[api.ErrVerifyDeep] < 1000 || len(told) != 2 {
		t.Errorf("told %v", told)
	}
}
