package tidy

import (
	"fmt"
	"math"
	"reflect"
	"slices"
	"strconv"
	"strings"
	"testing"

	"spindle/api"
	"spindle/asm"
	"spindle/link"
	"spindle/verify"
)

// short tells the beginning of an image or an answer, as some are long.
func short(what any) string {
	s := fmt.Sprintf("%+v", what)
	return s[:min(len(s), 900)]
}

// fn is the instructions of a function.
type fn = []api.Insn

func exit() api.Insn            { return api.Insn{Op: 0x95} }
func mov(imm int) api.Insn      { return api.Insn{Op: 0xb7, Imm: imm} }
func self(r int) api.Insn       { return api.Insn{Op: 0xbf, Dst: r, Src: r} }
func top() api.Insn             { return api.Insn{Op: 0xb7, Dst: 10} }
func lddw(imm int) api.Insn     { return api.Insn{Op: 0x18, Dst: 2, Imm: imm} }
func ldmap(t int) api.Insn      { return api.Insn{Op: 0x18, Dst: 1, Src: 1, Imm: t} }
func ja(off int) api.Insn       { return api.Insn{Op: 0x05, Off: off} }
func ja32(imm int) api.Insn     { return api.Insn{Op: 0x06, Imm: imm} }
func jeq(off int) api.Insn      { return api.Insn{Op: 0x15, Dst: 1, Off: off} }
func calls(f int) api.Insn      { return api.Insn{Op: 0x85, Src: 1, Imm: f} }
func helper(n int) api.Insn     { return api.Insn{Op: 0x85, Imm: n} }
func list(is ...api.Insn) fn    { return is }
func joined(parts ...fn) fn     { return slices.Concat(parts...) }
func copies(n int, parts fn) fn { return slices.Repeat(parts, n) }

// cut gives an image of functions f0, f1 and so on.
func cut(fs ...fn) api.Image {
	var im api.Image
	for k, f := range fs {
		im.Funcs = append(im.Funcs, api.ImgFunc{Name: "f" + strconv.Itoa(k), First: len(im.Text), Count: len(f)})
		im.Text = append(im.Text, f...)
	}
	return im
}

// tabled gives an image with so many tables.
func tabled(im api.Image, n int) api.Image {
	im.Tables = nil
	for k := range n {
		im.Tables = append(im.Tables, api.TableDef{Name: "t" + strconv.Itoa(k), Kind: api.TableHash, Key: 1, Value: 8, Entries: 2})
	}
	return im
}

// linked gives the image of texts, with the entry m; `|` stands for LF.
func linked(t *testing.T, texts ...string) api.Image {
	t.Helper()
	var os []api.Object
	for _, text := range texts {
		o, line, e := asm.Assemble([]byte(strings.ReplaceAll(text, "|", "\n")))
		if e != api.OK {
			t.Fatalf("%q: line %d, %d", text, line, e)
		}
		os = append(os, o)
	}
	im, name, e := link.Link(os, "m")
	if e != api.OK {
		t.Fatalf("%q: %q, %d", texts, name, e)
	}
	return im
}

// alone gives the image of a function m with these instructions.
func alone(t *testing.T, text string) api.Image {
	t.Helper()
	return linked(t, ".global m|.func m|"+text)
}

func same(a, b api.Image) bool {
	return slices.Equal(a.Text, b.Text) && slices.Equal(a.Funcs, b.Funcs) && slices.Equal(a.Tables, b.Tables) && a.Entry == b.Entry
}

// tidiedImage gives what Image gives of an image, which is held against the second reading.
func tidiedImage(t *testing.T, im api.Image) api.Image {
	t.Helper()
	got, e := Image(im)
	if e != api.OK {
		t.Fatalf("P24.1: Image tells %d; the image: %s", e, short(im))
	}
	wantTidy(t, im, got)
	return got
}

// want holds what Image gives.
func want(t *testing.T, what string, im, wanted api.Image) {
	t.Helper()
	if got := tidiedImage(t, im); !same(got, wanted) {
		t.Errorf("P24.1, P24.2: %s: Image gives %s, want %s", what, short(got), short(wanted))
	}
}

// wantText holds what becomes of the instructions of a function.
func wantText(t *testing.T, before, after string) {
	t.Helper()
	want(t, before, alone(t, before), alone(t, after))
}

func TestExamples(t *testing.T) {
	wantText(t, "mov r0, 1|ja x|mov r0, 2|x: exit", "mov r0, 1|exit")
	wantText(t, "mov r1, r1|exit", "exit")
	wantText(t, "jeq r1, 0, x|ja y|x: mov r0, 1|y: exit", "jeq r1, 0, x|ja y|x: mov r0, 1|y: exit")
	wantText(t, "x: ja x", "x: ja x")
	wantRefused(t, "falls off", cut(list(mov(0))), api.ErrVerifyFall)
}

func wantRefused(t *testing.T, what string, im api.Image, e api.Errno) {
	t.Helper()
	if got, wrong := Image(im); wrong != e || !reflect.ValueOf(got).IsZero() {
		t.Errorf("P24.1: %s: Image = %s, %d, want nothing, %d", what, short(got), wrong, e)
	}
	if _, _, wrong := verify.Check(im); wrong != e {
		t.Errorf("%s: Check tells %d, want %d", what, wrong, e)
	}
}

// TestRefused: each error of layer 19, and no image beside it. What is never reached is asked too, though it would be dropped.
func TestRefused(t *testing.T) {
	wantRefused(t, "nothing", api.Image{}, api.ErrVerifyImage)
	im := tabled(cut(list(exit())), 1)
	im.Entry = 1
	wantRefused(t, "no entry", im, api.ErrVerifyImage)
	im = tabled(cut(list(exit())), 1)
	im.Tables[0].Key = 0
	wantRefused(t, "a table that may not be", im, api.ErrVerifyImage)
	wantRefused(t, "too wide", cut(list(ja(40000), exit())), api.ErrVerifyImage)
	for _, row := range []struct {
		i api.Insn
		e api.Errno
	}{
		{api.Insn{}, api.ErrVerifyInsn},
		{api.Insn{Op: 0x15, Dst: 11}, api.ErrVerifyInsn},
		{api.Insn{Op: 0xbf, Dst: 11, Src: 11}, api.ErrVerifyInsn},
		{api.Insn{Op: 0xbf, Dst: 1, Src: 1, Imm: 1}, api.ErrVerifyInsn},
		{ja(1), api.ErrVerifyTarget},
		{ja(-9), api.ErrVerifyTarget},
		{ja32(math.MaxInt32), api.ErrVerifyTarget},
		{jeq(5), api.ErrVerifyTarget},
		{top(), api.ErrVerifyWrite},
		{self(10), api.ErrVerifyWrite},
		{calls(2), api.ErrVerifyCall},
		{ldmap(1), api.ErrVerifyTable},
		{helper(5), api.ErrVerifyHelper},
		{calls(1), api.ErrVerifyDeep},
	} {
		what := fmt.Sprintf("%+v", row.i)
		wantRefused(t, what, tabled(cut(list(exit()), list(row.i, exit())), 1), row.e)
		wantRefused(t, what+", never reached", tabled(cut(list(exit()), list(exit(), row.i, exit())), 1), row.e)
	}
	for _, i := range list(mov(0), self(1), lddw(0), jeq(-1), calls(0), helper(3)) {
		wantRefused(t, fmt.Sprintf("%+v last", i), cut(list(exit()), list(mov(0), i)), api.ErrVerifyFall)
		wantRefused(t, fmt.Sprintf("%+v last, never reached", i), cut(list(exit()), list(exit(), i)), api.ErrVerifyFall)
	}
	wantRefused(t, "into a wide one", cut(list(ja(1), lddw(0), exit())), api.ErrVerifyTarget)
}

// TestSelfMoves: those of 64 bits of each register, wherever they stand, and none of what looks like them.
func TestSelfMoves(t *testing.T) {
	for r := range 10 {
		want(t, "ahead", cut(list(self(r), mov(1), exit())), cut(list(mov(1), exit())))
		want(t, "in the midst", cut(list(mov(1), self(r), self(9-r), exit())), cut(list(mov(1), exit())))
		want(t, "a target", cut(list(jeq(1), mov(1), self(r), exit())), cut(list(jeq(1), mov(1), exit())))
		want(t, "ahead of a target", cut(list(jeq(1), self(r), exit())), cut(list(jeq(0), exit())))
		want(t, "a loop's first", cut(list(self(r), mov(1), jeq(-3), exit())), cut(list(mov(1), jeq(-2), exit())))
		want(t, "a loop's all", cut(list(self(r), self(r), ja(-3))), cut(list(ja(-1))))
	}
	for _, i := range []api.Insn{
		{Op: 0xbc, Dst: 1, Src: 1}, {Op: 0xbf, Dst: 1, Src: 1, Off: 8}, {Op: 0xbf, Dst: 1, Src: 1, Off: 16}, {Op: 0xbf, Dst: 1, Src: 1, Off: 32}, {Op: 0xbc, Dst: 1, Src: 1, Off: 8}, {Op: 0xbc, Dst: 1, Src: 1, Off: 16},
		{Op: 0xbf, Dst: 1, Src: 2}, {Op: 0xbf, Dst: 2, Src: 1}, {Op: 0xbf, Dst: 0, Src: 10}, {Op: 0xb7, Dst: 0}, {Op: 0xb4, Dst: 0}, {Op: 0x0f, Dst: 1, Src: 1}, {Op: 0x4f, Dst: 1, Src: 1}, {Op: 0x5f, Dst: 1, Src: 1}, {Op: 0xaf, Dst: 1, Src: 1}, {Op: 0x1f, Dst: 1, Src: 1}, {Op: 0x07, Dst: 1}, {Op: 0xcf, Dst: 1, Src: 1}, {Op: 0x87, Dst: 1},
		{Op: 0x1d, Dst: 1, Src: 1}, {Op: 0x79, Dst: 1, Src: 1}, {Op: 0x7b, Dst: 1, Src: 1}, {Op: 0xdb, Dst: 1, Src: 1},
	} {
		im := cut(list(i, i, exit()))
		want(t, fmt.Sprintf("%+v", i), im, im)
	}
}

// TestIdleJumps: a jump to what is right behind it, or comes to stand there.
func TestIdleJumps(t *testing.T) {
	for _, jump := range []string{"ja", "ja32"} {
		for _, row := range [][2]string{
			{"J x|x: exit", "exit"},
			{"mov r0, 1|J x|x: J y|y: J z|z: mov r0, 2|exit", "mov r0, 1|mov r0, 2|exit"},
			{"J x|mov r0, r0|mov r1, r1|x: exit", "exit"},
			{"J x|lddw r0, 1|x: exit", "exit"},
			{"jeq r1, 0, a|J x|mov r0, 1|a: mov r0, 2|x: exit", "jeq r1, 0, a|J x|a: mov r0, 2|x: exit"},
			// Behind the last one that is dropped stands the target of all.
			{"jeq r1, 1, b|jeq r1, 2, c|a: J x|b: J x|c: J x|x: exit", "jeq r1, 1, x|jeq r1, 2, x|x: exit"},
			{"jeq r1, 1, b|jeq r1, 2, c|a: J x|b: J y|c: J x|x: exit|y: mov r0, 1|exit", "jeq r1, 1, b|jeq r1, 2, x|J x|b: J y|x: exit|y: mov r0, 1|exit"},
			{"jeq r1, 1, b|jeq r1, 2, c|a: J x|b: J c|c: mov r0, 1|x: exit", "jeq r1, 1, c|jeq r1, 2, c|J x|c: mov r0, 1|x: exit"},
			// Back to what is no more: the jump leads to itself.
			{"x: mov r0, r0|J x", "x: J x"},
			{"mov r0, 1|x: mov r0, r0|mov r1, r1|J x", "mov r0, 1|x: J x"},
			{"a: J b|b: J a", "b: J b"},
			{"a: J b|b: J c|c: J a", "c: J c"},
			{"jeq r1, 1, a|b: J a|a: J b", "jeq r1, 1, a|a: J a"},
		} {
			wantText(t, strings.ReplaceAll(row[0], "J", jump), strings.ReplaceAll(row[1], "J", jump))
		}
	}
	// Branches that are no jumps stay, even such as lead right behind them.
	for _, i := range eachBranch() {
		im := cut(list(led(i, 0), led(i, -1), exit()))
		want(t, fmt.Sprintf("%+v", i), im, im)
	}
}

// TestJumpsToJumps: each leads to its last place, whichever of the two it is.
func TestJumpsToJumps(t *testing.T) {
	for _, row := range [][2]string{
		// The jump in the midst is reached still.
		{"jeq r1, 0, b|mov r0, 1|J b|a: mov r0, 2|exit|b: K a", "jeq r1, 0, b|mov r0, 1|a: mov r0, 2|exit|b: K a"},
		{"jeq r1, 0, b|mov r0, 1|J b|c: exit|a: mov r0, 2|K c|b: K a", "jeq r1, 0, b|mov r0, 1|J a|c: exit|a: mov r0, 2|K c|b: K a"},
		{"x: mov r0, 1|jeq r0, r1, b|a: J x|b: mov r0, 2|jeq r0, r1, c|K a|c: exit", "x: mov r0, 1|jeq r0, r1, b|a: J x|b: mov r0, 2|jeq r0, r1, c|K x|c: exit"},
		// It is reached no more.
		{"jeq r1, 0, x|J y|x: mov r0, 1|exit|y: K z|mov r0, 2|z: mov r0, 3|exit", "jeq r1, 0, x|J z|x: mov r0, 1|exit|z: mov r0, 3|exit"},
		{"jeq r1, 0, x|J y|x: mov r0, 1|exit|y: K y1|y1: K y2|y2: J z|z: mov r0, 3|exit", "jeq r1, 0, x|J z|x: mov r0, 1|exit|z: mov r0, 3|exit"},
		{"J a|x: exit|c: K x|b: J c|a: K b", "exit"},
		// What is dropped lays bare that there is a jump.
		{"jeq r1, 0, x|J y|x: mov r0, 1|exit|y: mov r1, r1|K z|mov r0, 2|z: mov r0, 3|exit", "jeq r1, 0, x|J z|x: mov r0, 1|exit|z: mov r0, 3|exit"},
		{"x: mov r2, r2|J y|y: mov r1, r1|K x", "x: K x"},
	} {
		for _, first := range []string{"ja", "ja32"} {
			for _, second := range []string{"ja", "ja32"} {
				do := strings.NewReplacer("J", first, "K", second)
				wantText(t, do.Replace(row[0]), do.Replace(row[1]))
			}
		}
	}
	// Branches that lead to jumps may stay, and the jumps with them.
	wantText(t, "jeq r1, 0, a|mov r0, 1|b: exit|a: ja b", "jeq r1, 0, a|mov r0, 1|b: exit|a: ja b")
}

// TestCircles: what leads in a circle, or comes into one, has no last place and stays; nothing of it leads right behind itself.
func TestCircles(t *testing.T) {
	for _, row := range [][2]string{
		{"x: ja x", "x: ja x"},
		{"x: ja32 x", "x: ja32 x"},
		{"jeq r1, 0, a|b: exit|a: ja a", "jeq r1, 0, a|b: exit|a: ja a"},
		// Both are reached, and neither leads right behind itself.
		{"jeq r1, 0, b|a: ja b|mov r0, 1|exit|b: ja a", "jeq r1, 0, b|b: ja b"},
		{"jeq r1, 0, b|a: ja b|x: exit|b: ja a|jeq r2, 0, x|exit", "jeq r1, 0, b|b: ja b"},
		{"jeq r1, 0, b|jeq r1, 1, x|a: ja b|x: exit|b: ja a", "jeq r1, 0, b|jeq r1, 1, x|a: ja b|x: exit|b: ja a"},
		// One that comes into a circle without being part of it.
		{"jeq r1, 0, x|ja b|x: jeq r1, 1, y|a: ja b|y: exit|b: ja a", "jeq r1, 0, x|ja b|x: jeq r1, 1, y|a: ja b|y: exit|b: ja a"},
		{"jeq r1, 0, x|ja32 c|x: jeq r1, 1, y|a: ja a|y: jeq r1, 2, z|c: ja a|z: exit", "jeq r1, 0, x|ja32 c|x: jeq r1, 1, y|a: ja a|y: jeq r1, 2, z|c: ja a|z: exit"},
	} {
		wantText(t, row[0], row[1])
	}
}

// TestUnreached: what no way comes to, in the midst and at the end, also where it is a circle, a call or a table's number.
func TestUnreached(t *testing.T) {
	wantText(t, "exit|mov r0, 1|exit", "exit")
	wantText(t, "exit|x: ja x", "exit")
	wantText(t, "exit|x: ja y|y: ja x", "exit")
	wantText(t, "exit|x: jeq r1, 0, x|y: call 3|ja y", "exit")
	wantText(t, "mov r0, 1|exit|x: lddw r0, 1|jeq r0, 0, x|exit", "mov r0, 1|exit")
	wantText(t, "ja b|a: mov r0, 1|exit|b: mov r0, 2|ja a", "ja b|a: mov r0, 1|exit|b: mov r0, 2|ja a")
	wantText(t, "x: jeq r1, 0, y|ja x|mov r0, 1|y: exit", "x: jeq r1, 0, y|ja x|y: exit")
	im := tabled(cut(list(exit(), calls(1), ldmap(1), exit()), list(ja(2), ldmap(0), exit())), 2)
	want(t, "calls and tables", im, tabled(cut(list(exit()), list(exit())), 2))
}

// eachBranch gives each of the 44 branches that are no jumps, without a distance.
func eachBranch() fn {
	var is fn
	for _, class := range []int{0x05, 0x06} {
		for _, what := range []int{0x10, 0x20, 0x30, 0x40, 0x50, 0x60, 0x70, 0xa0, 0xb0, 0xc0, 0xd0} {
			is = append(is, api.Insn{Op: class + what, Dst: 3, Imm: -5}, api.Insn{Op: class + what + 0x08, Dst: 3, Src: 10})
		}
	}
	return is
}

// led gives a branch with a distance.
func led(i api.Insn, n int) api.Insn {
	if i.Op == 0x06 {
		i.Imm = n
	} else {
		i.Off = n
	}
	return i
}

// TestEachBranch: each opcode with a target leads to the same instruction when others between are gone, forward and backward, and over wide ones.
func TestEachBranch(t *testing.T) {
	for _, i := range append(eachBranch(), ja(0), ja32(0)) {
		before := list(jeq(3), self(2), lddw(7), led(i, 7), lddw(1), lddw(2), self(1), mov(1), led(i, -8), exit())
		after := list(jeq(2), lddw(7), led(i, 6), lddw(1), lddw(2), mov(1), led(i, -7), exit())
		if i.Op == 0x05 || i.Op == 0x06 {
			after = list(jeq(2), lddw(7), exit())
		}
		want(t, fmt.Sprintf("%+v", i), cut(before), cut(after))
	}
}

// TestFunctions: names, objects, their order, the tables and the entry stay; each function is for itself, and calls call the same.
func TestFunctions(t *testing.T) {
	im := linked(t,
		".extern g|.global m|.map t array 4 8 2|.func f|ja x|mov r0, 1|x: exit|.func m|mov r1, r1|ja a|a: call g|ldmap r1, t|mov r2, r2|call f|exit",
		".global g|.map s hash 1 8 2|.func f|mov r1, r1|exit|.func g|jeq r1, 0, y|ldmap r2, s|ja y|mov r0, 2|y: call f|call 3|exit|.func h|x: ja x")
	wanted := linked(t,
		".extern g|.global m|.map t array 4 8 2|.func f|exit|.func m|call g|ldmap r1, t|call f|exit",
		".global g|.map s hash 1 8 2|.func f|exit|.func g|jeq r1, 0, y|ldmap r2, s|y: call f|call 3|exit|.func h|x: ja x")
	for entry := range im.Funcs {
		im.Entry, wanted.Entry = entry, entry
		want(t, "two objects", im, wanted)
		want(t, "two objects, tidy", wanted, wanted)
	}
	fs := []fn{list(exit()), list(self(1), exit()), list(ja(0), ja(0), exit()), list(ja(-1))}
	wants := []fn{list(exit()), list(exit()), list(exit()), list(ja(-1))}
	im, wanted = cut(fs...), cut(wants...)
	for k := range fs {
		im.Funcs[k].Name, im.Funcs[k].Object = "f", 63-k
		wanted.Funcs[k].Name, wanted.Funcs[k].Object = "f", 63-k
	}
	want(t, "one name", im, wanted)
}

// forward gives a function in which a jump leads to another one, which leads on to what is so far behind the first when the self moves between are gone. All of it is reached.
func forward(jump api.Insn, n, selves int) fn {
	a := n / 2
	b := n - 2 - a
	return joined(list(jeq(1), led(jump, a+selves+1)), copies(selves, list(self(1))), copies(a, list(mov(1))), list(jeq(1), ja32(b)), copies(b, list(mov(2))), list(exit()))
}

// backward gives such a function in which both jumps lead back.
func backward(jump api.Insn, n, selves int) fn {
	a := n / 2
	b := n - 5 - a
	return joined(copies(1+b, list(mov(1))), list(jeq(1), ja32(-b-3)), copies(selves, list(self(1))), copies(a, list(mov(2))), list(jeq(1), led(jump, -a-selves-3), exit()))
}

// jumping gives a jump that leads so far: a ja, if its field holds that.
func jumping(n int) api.Insn {
	if n < -32768 || n > 32767 {
		return ja32(n)
	}
	return ja(n)
}

// TestFarJumps: the bounds of a ja's field, which are asked when all else is done; beyond them the jump is a ja32.
func TestFarJumps(t *testing.T) {
	t.Parallel()
	for _, n := range []int{10, 32766, 32767, 32768, 32769, 32770, 65000} {
		for _, selves := range []int{0, 1, 150} {
			there, back := forward(ja(0), n, 0), backward(ja(0), n, 0)
			there[1], back[len(back)-2] = jumping(n), jumping(-n)
			want(t, "there", cut(forward(ja(0), n, selves)), cut(there))
			want(t, "back", cut(backward(ja(0), n, selves)), cut(back))
			there[1], back[len(back)-2] = ja32(n), ja32(-n)
			want(t, "there by ja32", cut(forward(ja32(0), n, selves)), cut(there))
			want(t, "back by ja32", cut(backward(ja32(0), n, selves)), cut(back))
		}
	}
}

// TestFarBranches: branches at the bounds of their fields stay, and come nearer when what lies between goes.
func TestFarBranches(t *testing.T) {
	t.Parallel()
	for _, i := range append(eachBranch()[:6], ja(0)) {
		there := joined(list(jeq(1), led(i, 32767)), copies(32767, list(mov(1))), list(exit()))
		back := joined(copies(32766, list(mov(1))), list(jeq(1), led(i, -32768), exit()))
		want(t, "there", cut(there), cut(there))
		want(t, "back", cut(back), cut(back))
		nearer := joined(list(jeq(1), led(i, 32765)), copies(32765, list(mov(1))), list(exit()))
		there[5], there[32768] = self(1), self(2)
		want(t, "there and nearer", cut(there), cut(nearer))
		back[0], back[32765] = self(1), self(2)
		nearer = joined(copies(32764, list(mov(1))), list(jeq(1), led(i, -32766), exit()))
		want(t, "back and nearer", cut(back), cut(nearer))
	}
}
