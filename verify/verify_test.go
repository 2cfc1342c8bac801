package verify

import (
	"errors"
	"fmt"
	"math"
	"slices"
	"strconv"
	"strings"
	"testing"

	"spindle/api"
	"spindle/asm"
	"spindle/link"
)

// short tells the beginning of an image or an answer, as some are long.
func short(what any) string {
	s := fmt.Sprintf("%+v", what)
	return s[:min(len(s), 600)]
}

// fn is the instructions of a function.
type fn = []api.Insn

func exit() api.Insn         { return api.Insn{Op: 0x95} }
func mov(imm int) api.Insn   { return api.Insn{Op: 0xb7, Imm: imm} }
func top() api.Insn          { return api.Insn{Op: 0xb7, Dst: 10} }
func lddw(imm int) api.Insn  { return api.Insn{Op: 0x18, Dst: 2, Imm: imm} }
func ldmap(t int) api.Insn   { return api.Insn{Op: 0x18, Dst: 1, Src: 1, Imm: t} }
func ja(off int) api.Insn    { return api.Insn{Op: 0x05, Off: off} }
func ja32(imm int) api.Insn  { return api.Insn{Op: 0x06, Imm: imm} }
func jeq(off int) api.Insn   { return api.Insn{Op: 0x15, Dst: 1, Off: off} }
func calls(f int) api.Insn   { return api.Insn{Op: 0x85, Src: 1, Imm: f} }
func helper(n int) api.Insn  { return api.Insn{Op: 0x85, Imm: n} }
func wrong() api.Insn        { return api.Insn{Op: 0x15, Dst: 11, Off: 1} }
func wrongWide() api.Insn    { return api.Insn{Op: 0x18, Src: 2} }
func list(is ...api.Insn) fn { return is }

// ways gives a function that calls others, and exits.
func ways(fs ...int) fn {
	var is fn
	for _, f := range fs {
		is = append(is, calls(f))
	}
	return append(is, exit())
}

// cut gives an image of functions f0, f1 and so on.
func cut(fs ...fn) api.Image {
	var im api.Image
	for k, f := range fs {
		im.Funcs = append(im.Funcs, api.ImgFunc{Name: "f" + strconv.Itoa(k), First: len(im.Text), Count: len(f)})
		im.Text = append(im.Text, f...)
	}
	return im
}

// called gives an image of functions of these names, as many as there are functions.
func called(names string, fs ...fn) api.Image {
	im := cut(fs...)
	for k, name := range strings.Fields(names)[:len(fs)] {
		im.Funcs[k].Name = name
	}
	return im
}

// tabled gives an image with so many tables.
func tabled(im api.Image, n int) api.Image {
	im.Tables = nil
	for k := range n {
		im.Tables = append(im.Tables, api.TableDef{Name: "t" + strconv.Itoa(10000+k), Kind: api.TableArray, Key: 4, Value: 1, Entries: 1})
	}
	return im
}

// answer is what Check tells.
type answer struct {
	f, at int
	e     api.Errno
}

func checked(im api.Image) answer {
	f, at, e := Check(im)
	return answer{f, at, e}
}

// want holds what Check and Why tell of an image.
func want(t *testing.T, what string, im api.Image, f, at int, e api.Errno) {
	t.Helper()
	if have := checked(im); have != (answer{f, at, e}) {
		t.Errorf("P19.1: %s: Check = %+v, want {%d, %d, %d}; the image: %s", what, have, f, at, e, short(im))
	}
	wantWhy(t, what, im, answer{f, at, e})
}

// wantWhy holds what Why tells of an image of which Check tells an answer.
func wantWhy(t *testing.T, what string, im api.Image, a answer) {
	t.Helper()
	why := Why(im)
	if a.e == api.OK {
		if why != nil {
			t.Errorf("P19.2: %s: Why = %v, want nil; the image: %s", what, why, short(im))
		}
		return
	}
	fault := api.Fault{Wrong: api.WrongImage, Code: a.e, At: a.at}
	if a.e != api.ErrVerifyImage {
		fault.Name = im.Funcs[a.f].Name
	}
	have, ok := why.(*api.Fault)
	if !ok || have == nil || *have != fault {
		t.Errorf("P19.2: %s: Why = %+v, want %+v; the image: %s", what, have, fault, short(im))
	}
	if !errors.Is(why, api.WrongImage) || !errors.Is(why, a.e) || errors.Is(why, api.WrongLink) {
		t.Errorf("P19.2: %s: Why is not the two errors that it wraps", what)
	}
}

// wantOne holds what Check tells of one function: nothing wrong, or the instruction of a number.
func wantOne(t *testing.T, what string, f fn, at int, e api.Errno) {
	t.Helper()
	want(t, what, cut(f), 0, at, e)
}

// linked gives the image of a text that begins with `.global m`; `|` stands for LF.
func linked(t *testing.T, text string) api.Image {
	t.Helper()
	o, line, e := asm.Assemble([]byte(".global m\n" + strings.ReplaceAll(text, "|", "\n")))
	if e != api.OK {
		t.Fatalf("%q: line %d, %d", text, line, e)
	}
	im, name, e := link.Link([]api.Object{o}, "m")
	if e != api.OK {
		t.Fatalf("%q: %q, %d", text, name, e)
	}
	return im
}

func TestExamples(t *testing.T) {
	m := func(text string) api.Image { return linked(t, ".func m|"+text) }
	entry := m("exit")
	entry.Entry = 1
	byHand := m("ja x|lddw r1, 5|x: exit")
	byHand.Text[0].Off = 1
	last := m("mov r0, 1|exit")
	last.Text[1] = api.Insn{}
	chain := func(names string) api.Image {
		text := ""
		for k, name := range names {
			text += ".func " + string(name)
			if k+1 < len(names) {
				text += "|call " + names[k+1:k+2]
			}
			text += "|exit|"
		}
		return linked(t, text+".func m|exit")
	}
	for _, row := range []struct {
		what  string
		im    api.Image
		f, at int
		e     api.Errno
	}{
		{"an exit", m("exit"), 0, 0, api.OK},
		{"with Entry 1", entry, 0, 0, api.ErrVerifyImage},
		{"a last mov", m("mov r0, 1"), 0, 0, api.ErrVerifyFall},
		{"a last branch", m("jeq r0, 0, x|x: jeq r0, 0, x"), 0, 1, api.ErrVerifyFall},
		{"a last ja", m("x: ja x"), 0, 0, api.OK},
		{"mov to r10", m("mov r10, 1|exit"), 0, 0, api.ErrVerifyWrite},
		{"afadd to r10", m("afadd [r1+0], r10|exit"), 0, 0, api.ErrVerifyWrite},
		{"aadd of r10", m("aadd [r1+0], r10|exit"), 0, 0, api.OK},
		{"stxdw of r10", m("stxdw [r10-8], r10|exit"), 0, 0, api.OK},
		{"helper 5", m("call 5|exit"), 0, 0, api.ErrVerifyHelper},
		{"helper 0", m("call 0|exit"), 0, 0, api.ErrVerifyHelper},
		{"helper 4", m("call 4|exit"), 0, 0, api.OK},
		{"a ja over a wide one", m("ja x|lddw r1, 5|x: exit"), 0, 0, api.OK},
		{"a ja into a wide one", byHand, 0, 0, api.ErrVerifyTarget},
		{"a call of itself", m("call m|exit"), 0, 0, api.ErrVerifyDeep},
		{"m ahead of z", linked(t, ".func z|mov r0, 1|.func m|mov r10, 1|exit"), 1, 0, api.ErrVerifyWrite},
		{"a to i", chain("abcdefghi"), 0, 0, api.ErrVerifyDeep},
		{"a to h", chain("abcdefgh"), 0, 0, api.OK},
		{"a last Op 0", last, 0, 1, api.ErrVerifyInsn},
	} {
		want(t, row.what, row.im, row.f, row.at, row.e)
	}
}

// oddNumbers gives numbers that are none of a few functions, tables or helpers, all of 32 bits.
func oddNumbers() []int {
	return []int{-1, -2, -4, 255, 256, 257, 65536, 65537, 1 << 24, math.MaxInt32, math.MinInt32, math.MinInt32 + 1}
}

// TestWrongImages: each error of layer 17, and no function is told.
func TestWrongImages(t *testing.T) {
	spoilt := func(do func(im *api.Image)) api.Image {
		im := tabled(cut(list(top()), list(wrong())), 1)
		do(&im)
		return im
	}
	want(t, "as it stands", spoilt(func(im *api.Image) {}), 0, 0, api.ErrVerifyFall)
	for what, im := range map[string]api.Image{
		"nothing":                       {},
		"empty lists":                   {Text: fn{}, Funcs: []api.ImgFunc{}, Tables: []api.TableDef{}},
		"functions alone":               {Funcs: []api.ImgFunc{{Name: "f"}}},
		"a text alone":                  {Text: list(exit())},
		"too many slots":                cut(slices.Repeat(list(lddw(0)), 524289)),
		"too many functions":            cut(slices.Repeat([]fn{list(top())}, 4097)...),
		"too many tables":               tabled(cut(list(top())), 1025),
		"no name":                       spoilt(func(im *api.Image) { im.Funcs[1].Name = "" }),
		"a name of 65 bytes":            spoilt(func(im *api.Image) { im.Funcs[1].Name = strings.Repeat("a", 65) }),
		"a name twice":                  spoilt(func(im *api.Image) { im.Funcs[1].Name = "f0" }),
		"an object":                     spoilt(func(im *api.Image) { im.Funcs[1].Object = 64 }),
		"a table's name":                spoilt(func(im *api.Image) { im.Tables[0].Name = "0" }),
		"an empty function":             spoilt(func(im *api.Image) { im.Funcs[1].Count = 0 }),
		"a function beyond the text":    spoilt(func(im *api.Image) { im.Funcs[1].Count = 2 }),
		"a function of very many":       spoilt(func(im *api.Image) { im.Funcs[0].Count = math.MaxInt }),
		"a function of fewer than none": spoilt(func(im *api.Image) { im.Funcs[0].Count = math.MinInt }),
		"a function ahead of the text":  spoilt(func(im *api.Image) { im.Funcs[0].First = -1 }),
		"functions one over the other":  spoilt(func(im *api.Image) { im.Funcs[1].First = 0 }),
		"an instruction of no function": spoilt(func(im *api.Image) { im.Text = append(im.Text, exit()) }),
		"a table":                       spoilt(func(im *api.Image) { im.Tables[0].Key = 3 }),
		"an entry below":                spoilt(func(im *api.Image) { im.Entry = -1 }),
		"an entry above":                spoilt(func(im *api.Image) { im.Entry = 2 }),
		"a far entry":                   spoilt(func(im *api.Image) { im.Entry = math.MaxInt }),
		"an Op too wide":                spoilt(func(im *api.Image) { im.Text[1].Op = 256 }),
		"an Op below 0":                 spoilt(func(im *api.Image) { im.Text[1].Op = -1 }),
		"a Dst too wide":                spoilt(func(im *api.Image) { im.Text[1].Dst = 16 }),
		"a Src too wide":                spoilt(func(im *api.Image) { im.Text[1].Src = 16 }),
		"an Off too wide":               spoilt(func(im *api.Image) { im.Text[1].Off = 32768 }),
		"an Imm too wide":               spoilt(func(im *api.Image) { im.Text[1].Imm = 1 << 31 }),
		"a name and an entry":           spoilt(func(im *api.Image) { im.Funcs[0].Name, im.Entry = "-", 9 }),
	} {
		want(t, what, im, 0, 0, api.ErrVerifyImage)
	}
}

// TestInsn: what layer 2 refuses and layer 17 takes, ahead, in the midst and last, and none of the other rules is told of it.
func TestInsn(t *testing.T) {
	for _, i := range []api.Insn{
		{}, {Op: 255}, wrong(), wrongWide(), {Op: 0x95, Imm: 1}, {Op: 0x95, Dst: 1}, {Op: 0x05, Imm: 1}, {Op: 0x05, Off: 99, Imm: 1}, {Op: 0x06, Off: 1}, {Op: 0x06, Imm: 99, Off: 1},
		{Op: 0x15, Src: 1, Off: 99}, {Op: 0x85, Src: 2, Imm: 1}, {Op: 0x85, Src: 1, Off: 1, Imm: 99}, {Op: 0x85, Dst: 1, Imm: 99}, {Op: 0x8d}, {Op: 0x0d}, {Op: 0x96}, {Op: 0x86}, {Op: 0x18, Src: 1, Imm: 1 << 31}, {Op: 0x18, Src: 1, Off: 1, Imm: 99},
		{Op: 0xb7, Dst: 10, Off: 1}, {Op: 0xb7, Dst: 11}, {Op: 0xb7, Dst: 15}, {Op: 0xbf, Src: 11}, {Op: 0xdb, Src: 10, Imm: 0x02}, {Op: 0xdb, Src: 10, Imm: 0xff},
	} {
		wantOne(t, "ahead", list(i, exit()), 0, api.ErrVerifyInsn)
		wantOne(t, "in the midst", list(mov(0), i, i, exit()), 1, api.ErrVerifyInsn)
		wantOne(t, "last", list(mov(0), mov(0), i), 2, api.ErrVerifyInsn)
		wantOne(t, "never reached", list(exit(), i, exit()), 1, api.ErrVerifyInsn)
	}
}

// eachBranch gives each of the 46 instructions that lead, without a distance.
func eachBranch() fn {
	is := list(ja(0), ja32(0))
	for _, class := range []int{0x05, 0x06} {
		for _, what := range []int{0x10, 0x20, 0x30, 0x40, 0x50, 0x60, 0x70, 0xa0, 0xb0, 0xc0, 0xd0} {
			is = append(is, api.Insn{Op: class + what, Dst: 3, Imm: -5}, api.Insn{Op: class + what + 0x08, Dst: 3, Src: 10})
		}
	}
	return is
}

// leading gives a branch with a distance.
func leading(i api.Insn, far int) api.Insn {
	if i.Op == 0x06 {
		i.Imm = far
	} else {
		i.Off = far
	}
	return i
}

// TestTarget: each branch with each distance, in a function between others.
func TestTarget(t *testing.T) {
	others := list(lddw(0), mov(0), mov(0), mov(0), mov(0), exit())
	for _, i := range eachBranch() {
		// The slots of the function's instructions: 0, 2, 3, 4, 6.
		for far, fine := range map[int]bool{
			-7: false, -6: false, -5: false, -4: true, -3: false, -2: true, -1: true, 0: true, 1: false, 2: true, 3: false, 4: false, 5: false, 32767: false, -32768: false,
		} {
			im := cut(others, list(lddw(0), mov(0), leading(i, far), lddw(0), exit()), others)
			what := fmt.Sprintf("%+v with %d", i, far)
			if fine {
				want(t, what, im, 0, 0, api.OK)
			} else {
				want(t, what, im, 1, 2, api.ErrVerifyTarget)
			}
		}
	}
	for _, far := range oddNumbers() {
		e := api.ErrVerifyTarget
		if far == -1 || far == -2 {
			e = api.OK
		}
		at := 1
		if e == api.OK {
			at = 0
		}
		wantOne(t, "ja32", list(mov(0), ja32(far), exit()), at, e)
	}
	// A target that may not be is one all the same: the second instruction breaks the first rule.
	wantOne(t, "to one that may not be", list(ja(0), wrongWide(), exit()), 1, api.ErrVerifyInsn)
	wantOne(t, "into one that may not be", list(ja(1), wrongWide(), exit()), 0, api.ErrVerifyTarget)
	wantOne(t, "never reached", list(exit(), ja(1), exit()), 1, api.ErrVerifyTarget)
}

// TestFarTargets: the bounds of Off.
func TestFarTargets(t *testing.T) {
	for _, i := range eachBranch()[:8] {
		f := slices.Repeat(list(mov(0)), 65536)
		f[65535], f[32767] = exit(), leading(i, 32767)
		wantOne(t, "forward", f, 0, api.OK)
		f[65534] = exit()
		wantOne(t, "one too far", f[:65535], 32767, api.ErrVerifyTarget)
		f[32767] = leading(i, -32768)
		wantOne(t, "backward", f, 0, api.OK)
		wantOne(t, "one too far back", f[1:], 32766, api.ErrVerifyTarget)
	}
}

// TestFall: each instruction as the last one; ja, ja32 and exit alone do not fall off.
func TestFall(t *testing.T) {
	for _, i := range []api.Insn{mov(1), lddw(1), helper(1), calls(0), {Op: 0x79, Off: 2}, {Op: 0x7a, Off: -1, Imm: 4}, {Op: 0xdb, Off: 1, Imm: 0xf1}, {Op: 0x87}, jeq(-1), {Op: 0x16, Off: -1}, {Op: 0xdd, Off: -1}, {Op: 0x05 + 0x80, Imm: 3}} {
		wantOne(t, "last and only", list(i), 0, api.ErrVerifyFall)
		wantOne(t, "last", list(mov(0), i), 1, api.ErrVerifyFall)
		want(t, "last of a function between others", cut(list(exit()), list(exit(), i), list(exit())), 1, 1, api.ErrVerifyFall)
	}
	for _, i := range []api.Insn{exit(), ja(-1), ja32(-1), ja(-2), ja32(-2)} {
		wantOne(t, "last", list(mov(0), i), 0, api.OK)
		want(t, "last of a function between others", cut(list(exit()), list(mov(0), i), list(exit())), 0, 0, api.OK)
	}
	// What stands behind an exit falls off too, and what is last goes on into no other function.
	wantOne(t, "never reached", list(exit(), mov(0)), 1, api.ErrVerifyFall)
	want(t, "ahead of another function", cut(list(mov(0)), list(exit())), 0, 0, api.ErrVerifyFall)
	wantOne(t, "wide", list(exit(), lddw(0)), 1, api.ErrVerifyFall)
}

// writers gives instructions that write a register.
func writers(r int) fn {
	is := list(api.Insn{Op: 0x87, Dst: r}, api.Insn{Op: 0x84, Dst: r}, api.Insn{Op: 0x18, Dst: r}, api.Insn{Op: 0x18, Dst: r, Src: 1})
	for _, op := range []int{0x07, 0x17, 0x27, 0x37, 0x47, 0x57, 0x67, 0x77, 0x97, 0xa7, 0xb7, 0xc7} {
		is = append(is, api.Insn{Op: op, Dst: r}, api.Insn{Op: op + 8, Dst: r, Src: 10}, api.Insn{Op: op - 3, Dst: r}, api.Insn{Op: op + 5, Dst: r, Src: 10})
	}
	for _, op := range []int{0xd4, 0xdc, 0xd7} {
		is = append(is, api.Insn{Op: op, Dst: r, Imm: 16}, api.Insn{Op: op, Dst: r, Imm: 32}, api.Insn{Op: op, Dst: r, Imm: 64})
	}
	for _, op := range []int{0x71, 0x69, 0x61, 0x79, 0x91, 0x89, 0x81} {
		is = append(is, api.Insn{Op: op, Dst: r, Src: 10, Off: -8})
	}
	for _, imm := range []int{0x01, 0x41, 0x51, 0xa1, 0xe1} {
		is = append(is, api.Insn{Op: 0xdb, Src: r, Dst: 10, Imm: imm}, api.Insn{Op: 0xc3, Src: r, Dst: 10, Imm: imm})
	}
	return append(is, api.Insn{Op: 0xbf, Dst: r, Off: 8}, api.Insn{Op: 0xbf, Dst: r, Off: 32}, api.Insn{Op: 0xbc, Dst: r, Off: 16}, api.Insn{Op: 0x37, Dst: r, Off: 1}, api.Insn{Op: 0x9c, Dst: r, Off: 1})
}

// TestWrite: each instruction that writes, with each register; and those that only read r10.
func TestWrite(t *testing.T) {
	for r := range 11 {
		for _, i := range writers(r) {
			e := api.OK
			at := 0
			if r == 10 {
				e, at = api.ErrVerifyWrite, 1
			}
			want(t, fmt.Sprintf("%+v", i), tabled(cut(list(mov(0), i, exit())), 1), 0, at, e)
		}
	}
	for _, i := range []api.Insn{
		{Op: 0x72, Dst: 10}, {Op: 0x7a, Dst: 10}, {Op: 0x73, Dst: 10, Src: 10}, {Op: 0x7b, Dst: 10, Src: 10}, {Op: 0xdb, Dst: 10, Src: 10}, {Op: 0xdb, Dst: 10, Src: 10, Imm: 0x40}, {Op: 0xc3, Dst: 10, Src: 10, Imm: 0x50}, {Op: 0xdb, Dst: 10, Src: 10, Imm: 0xa0},
		{Op: 0xdb, Dst: 10, Src: 10, Imm: 0xf1}, {Op: 0xc3, Dst: 10, Src: 10, Imm: 0xf1}, {Op: 0x15, Dst: 10}, {Op: 0x1d, Dst: 10, Src: 10}, {Op: 0x1e, Dst: 10, Src: 10}, helper(3),
	} {
		wantOne(t, fmt.Sprintf("%+v", i), list(i, exit()), 0, api.OK)
	}
	wantOne(t, "never reached", list(exit(), top(), exit()), 1, api.ErrVerifyWrite)
}

// TestCall: the numbers of functions and those that are none.
func TestCall(t *testing.T) {
	three := func(n int) api.Image { return cut(list(mov(0), calls(n), exit()), list(exit()), list(exit())) }
	want(t, "1", three(1), 0, 0, api.OK)
	want(t, "2", three(2), 0, 0, api.OK)
	for _, n := range append(oddNumbers(), 3, 4, 5) {
		want(t, strconv.Itoa(n), three(n), 0, 1, api.ErrVerifyCall)
		wantOne(t, "never reached", list(exit(), calls(n), exit()), 1, api.ErrVerifyCall)
	}
	// Tables are no functions.
	want(t, "with tables", tabled(three(3), 9), 0, 1, api.ErrVerifyCall)
}

// TestTable: the numbers of tables and those that are none; lddw names none.
func TestTable(t *testing.T) {
	with := func(n, tables int) api.Image {
		return tabled(cut(list(mov(0), ldmap(n), exit()), list(exit())), tables)
	}
	for tables := range 4 {
		for n := range 6 {
			if n < tables {
				want(t, "a table", with(n, tables), 0, 0, api.OK)
			} else {
				want(t, "no table", with(n, tables), 0, 1, api.ErrVerifyTable)
			}
		}
		for _, n := range oddNumbers() {
			want(t, "no table", with(n, tables), 0, 1, api.ErrVerifyTable)
			wantOne(t, "a number", list(lddw(n), exit()), 0, api.OK)
		}
	}
	want(t, "the last of all", with(1023, 1024), 0, 0, api.OK)
	want(t, "behind all", with(1024, 1024), 0, 1, api.ErrVerifyTable)
	wantOne(t, "never reached", list(exit(), ldmap(0), exit()), 1, api.ErrVerifyTable)
	wantOne(t, "a wide number", list(lddw(math.MinInt), lddw(math.MaxInt), exit()), 0, api.OK)
}

// TestHelper: 1 to 4, and no others, however many functions there are.
func TestHelper(t *testing.T) {
	for n := -3; n < 12; n++ {
		im := cut(list(mov(0), helper(n), exit()), list(exit()), list(exit()), list(exit()), list(exit()), list(exit()), list(exit()))
		if n >= 1 && n <= 4 {
			want(t, strconv.Itoa(n), im, 0, 0, api.OK)
		} else {
			want(t, strconv.Itoa(n), im, 0, 1, api.ErrVerifyHelper)
		}
	}
	for _, n := range oddNumbers() {
		wantOne(t, strconv.Itoa(n), list(exit(), helper(n), exit()), 1, api.ErrVerifyHelper)
	}
}

// TestRuleOrder: of an instruction that breaks several rules the first of them is told, of several instructions the first.
func TestRuleOrder(t *testing.T) {
	wantOne(t, "insn and fall", list(mov(0), wrong()), 1, api.ErrVerifyInsn)
	wantOne(t, "target and fall", list(mov(0), jeq(5)), 1, api.ErrVerifyTarget)
	wantOne(t, "a jump behind the end", list(mov(0), ja(0)), 1, api.ErrVerifyTarget)
	wantOne(t, "fall and write", list(mov(0), top()), 1, api.ErrVerifyFall)
	wantOne(t, "fall and call", list(mov(0), calls(9)), 1, api.ErrVerifyFall)
	wantOne(t, "fall and table", list(mov(0), ldmap(9)), 1, api.ErrVerifyFall)
	wantOne(t, "fall and helper", list(mov(0), helper(9)), 1, api.ErrVerifyFall)
	wantOne(t, "write and table", list(mov(0), api.Insn{Op: 0x18, Dst: 10, Src: 1, Imm: 9}, exit()), 1, api.ErrVerifyWrite)
	is := []api.Insn{wrong(), ja(9), top(), calls(9), ldmap(9), helper(9), calls(0)}
	es := []api.Errno{api.ErrVerifyInsn, api.ErrVerifyTarget, api.ErrVerifyWrite, api.ErrVerifyCall, api.ErrVerifyTable, api.ErrVerifyHelper, api.ErrVerifyDeep}
	for k, first := range is[:6] {
		for _, second := range is {
			wantOne(t, "two instructions", list(mov(0), first, second, exit()), 1, es[k])
			wantOne(t, "two instructions, the first deep", list(calls(0), first, second, exit()), 1, es[k])
			want(t, "two functions", called("b a", list(second, exit()), list(mov(0), first, exit())), 1, 1, es[k])
			want(t, "the first function deep alone", called("a b", list(calls(0), exit()), list(mov(0), first, exit())), 1, 1, es[k])
		}
	}
	wantOne(t, "deep alone", list(calls(0), exit()), 0, api.ErrVerifyDeep)
	wantOne(t, "deep and never reached", list(exit(), mov(0), calls(0), exit()), 0, api.ErrVerifyDeep)
}

// TestFirst: names are held against each other byte by byte, then objects by number.
func TestFirst(t *testing.T) {
	rising := strings.Fields("A A0 AB Z _ a a$ a$b a. a.b a0 aA a_ aa ab b z z0 zz")
	rising = append(rising, strings.Repeat("z", 63), strings.Repeat("z", 63)+"a", strings.Repeat("z", 64))
	for k, less := range rising {
		for _, more := range rising[k+1:] {
			for _, bad := range []fn{list(top(), exit()), list(calls(0), calls(1), exit())} {
				e := api.ErrVerifyWrite
				if bad[0] != top() {
					e = api.ErrVerifyDeep
				}
				want(t, less+" and "+more, called(less+" "+more, bad, bad), 0, 0, e)
				want(t, more+" and "+less, called(more+" "+less, bad, bad), 1, 0, e)
				objects := called(more+" "+less, bad, bad)
				objects.Funcs[1].Object = 63
				want(t, "a name ahead of an object", objects, 1, 0, e)
			}
		}
	}
	for a := range 64 {
		for b := range 64 {
			im := called("f f", list(top(), exit()), list(top(), exit()))
			im.Funcs[0].Object, im.Funcs[1].Object = a, b
			if a < b {
				want(t, "objects", im, 0, 0, api.ErrVerifyWrite)
			} else if a > b {
				want(t, "objects", im, 1, 0, api.ErrVerifyWrite)
			}
		}
	}
}

// TestDeep: chains, circles, ways that meet again, and which function is told.
func TestDeep(t *testing.T) {
	// Each of n functions calls the next one; told in order, and backwards.
	for n := 1; n <= 20; n++ {
		var there, back []fn
		for k := range n {
			there, back = append(there, ways(k+1)), append(back, ways(k-1))
		}
		there[n-1], back[0] = ways(), ways()
		// In byte order f0 is ahead of f1, and f1 of f10: the least is told.
		if n <= 8 {
			want(t, "a chain", cut(there...), 0, 0, api.OK)
			want(t, "a chain backwards", cut(back...), 0, 0, api.OK)
			continue
		}
		first := 8
		if n > 10 {
			first = 10
		}
		want(t, "a chain", cut(there...), 0, 0, api.ErrVerifyDeep)
		want(t, "a chain backwards", cut(back...), first, 0, api.ErrVerifyDeep)
	}
	for _, row := range []struct {
		what string
		im   api.Image
		f    int
		e    api.Errno
	}{
		{"itself", cut(ways(0)), 0, api.ErrVerifyDeep},
		{"two in a circle", cut(ways(1), ways(0)), 0, api.ErrVerifyDeep},
		{"comes to a circle", called("b a c", ways(0), ways(2), ways(0)), 1, api.ErrVerifyDeep},
		{"does not come to the circle", called("b a c", ways(0), ways(2), ways()), 0, api.ErrVerifyDeep},
		{"a circle behind a done one", called("a b c", ways(), ways(0, 2), ways(0, 1)), 1, api.ErrVerifyDeep},
		{"a circle found last", called("a b c d", ways(1, 2), ways(3), ways(2), ways()), 0, api.ErrVerifyDeep},
		{"ways that meet again", cut(ways(1, 2), ways(3), ways(3), ways(4, 5), ways(6), ways(6), ways()), 0, api.OK},
		{"the second way is longer", cut(ways(8, 1), ways(2), ways(3), ways(4), ways(5), ways(6), ways(7), ways(8), ways()), 0, api.ErrVerifyDeep},
		{"the first way is longer", cut(ways(1, 8), ways(2), ways(3), ways(4), ways(5), ways(6), ways(7), ways(8), ways()), 0, api.ErrVerifyDeep},
		{"both ways are eight", cut(ways(1, 8), ways(2), ways(3), ways(4), ways(5), ways(6), ways(7), ways(), ways(2)), 0, api.OK},
		{"over a done one", called("c d e f g b a h i", ways(1), ways(2), ways(3), ways(4), ways(7), ways(0), ways(5), ways(8), ways()), 6, api.ErrVerifyDeep},
		{"calls of one function, many times", cut(ways(1, 1, 1, 1, 1, 1, 1, 1, 1, 1), ways(2, 2, 2), ways()), 0, api.OK},
	} {
		want(t, row.what, row.im, row.f, 0, row.e)
	}
}
