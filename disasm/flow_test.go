package disasm

import (
	"math"
	"math/rand"
	"slices"
	"strconv"
	"strings"
	"testing"

	"spindle/api"
	"spindle/asm"
	"spindle/isa"
)

// eachBranch gives a branch of each opcode that branches, without a distance.
func eachBranch() []api.Insn {
	var is []api.Insn
	for _, op := range isa.Ops() {
		if !branches(op) {
			continue
		}
		i := api.Insn{Op: op}
		if op != 0x05 && op != 0x06 {
			i.Dst = 3
			if op&0x08 != 0 {
				i.Src = 4
			} else {
				i.Imm = -5
			}
		}
		is = append(is, i)
	}
	return is
}

// leading gives a branch with a distance.
func leading(i api.Insn, far int) api.Insn {
	if i.Op == 0x06 {
		i.Imm = far
	} else {
		i.Off = far
	}
	return i
}

// checkLead: a branch, which has that number in the object and in its function, leads to an instruction of the function; below 0: to none.
func checkLead(t *testing.T, what string, o api.Object, at, want int) {
	t.Helper()
	m, told, e := Module(o)
	switch {
	case want < 0:
		if told != at || e != api.ErrDisasmFlow || !same(m, api.Module{}) {
			t.Errorf("P14.1: %s: Module = %s, %d, %d, want %d, ErrDisasmFlow", what, short(m), told, e, at)
		}
		if s, told, e := Text(o); s != "" || told != at || e != api.ErrDisasmFlow {
			t.Errorf("P14.2: %s: Text = %q, %d, %d, want %d, ErrDisasmFlow", what, short(s), told, e, at)
		}
	case told != 0 || e != api.OK:
		t.Errorf("P14.1: %s: Module tells %d, %d, want OK", what, told, e)
	default:
		if s := m.Funcs[0].Body[at]; s.Branch != want || s.Insn != leading(o.Text[at], 0) || s.Target != "" {
			t.Errorf("P14.1: %s: %+v, want Branch %d", what, s, want)
		}
	}
}

// TestBranchBounds: each opcode, both ways, at the bounds of its offset, over narrow and wide instructions.
func TestBranchBounds(t *testing.T) {
	t.Parallel()
	if n := len(eachBranch()); n != 46 {
		t.Fatalf("%d branches, want 46", n)
	}
	one := func(i api.Insn) []api.Insn { return []api.Insn{i} }
	for _, i := range eachBranch() {
		to := func(far int) []api.Insn { return one(leading(i, far)) }
		for _, row := range []struct {
			what string
			o    api.Object
			at   int
			want int
		}{
			{"to itself", oneOf(to(-1)), 0, 0},
			{"to the next", oneOf(to(0), exits(1)), 0, 1},
			{"to the end", oneOf(to(0)), 0, -1},
			{"behind the end", oneOf(to(1), exits(1)), 0, -1},
			{"ahead of the beginning", oneOf(to(-2), exits(1)), 0, -1},
			{"to a wide one", oneOf(exits(1), to(0), wides(1)), 1, 2},
			{"into a wide one", oneOf(exits(1), to(1), wides(1)), 1, -1},
			{"over a wide one", oneOf(exits(1), to(2), wides(1), exits(1)), 1, 3},
			{"behind a wide one at the end", oneOf(exits(1), to(2), wides(1)), 1, -1},
			{"back to a wide one", oneOf(wides(1), to(-3)), 1, 0},
			{"back into a wide one", oneOf(wides(1), to(-2)), 1, -1},
			{"forward over exits", oneOf(to(32767), exits(32768)), 0, 32768},
			{"forward over exits to the end", oneOf(to(32767), exits(32767)), 0, -1},
			{"forward over wide ones and an exit", oneOf(to(32767), exits(1), wides(16384)), 0, 16385},
			{"forward into a wide one", oneOf(to(32767), wides(16384)), 0, -1},
			{"back over exits", oneOf(exits(32767), to(-32768)), 32767, 0},
			{"back over fewer exits", oneOf(exits(32766), to(-32768)), 32766, -1},
			{"back over wide ones and an exit", oneOf(exits(1), wides(16383), to(-32768)), 16384, 0},
			{"back into a wide one far off", oneOf(wides(16384), to(-32768)), 16384, -1},
		} {
			what := "opcode " + strconv.Itoa(i.Op) + ", " + row.what
			checkLead(t, what, row.o, row.at, row.want)
		}
	}
}

// TestFarJump32: ja32 leads as far as an object is long, and no number makes it wrap round.
func TestFarJump32(t *testing.T) {
	t.Parallel()
	checkLead(t, "forward", oneOf([]api.Insn{ja32(65534)}, exits(65535)), 0, 65535)
	checkLead(t, "forward to the end", oneOf([]api.Insn{ja32(65535)}, exits(65535)), 0, -1)
	checkLead(t, "forward over wide ones", oneOf([]api.Insn{ja32(65532)}, wides(32766), exits(3)), 0, 32767)
	checkLead(t, "back", oneOf(exits(65535), []api.Insn{ja32(-65536)}), 65535, 0)
	checkLead(t, "back, one more", oneOf(exits(65535), []api.Insn{ja32(-65537)}), 65535, -1)
	for _, far := range []int{math.MinInt32, math.MinInt32 + 1, math.MaxInt32 - 1, math.MaxInt32, 1 << 16, -1 << 16, 1<<16 - 1, -1<<16 - 1, 1 << 24, 2, -3} {
		checkLead(t, "by "+strconv.Itoa(far), oneOf(exits(1), []api.Insn{ja32(far)}, exits(1)), 1, -1)
	}
}

// TestDistances: a branch at each place of a function, with each distance about it, with wide ones in all places, alone and between others.
func TestDistances(t *testing.T) {
	t.Parallel()
	told := map[api.Errno]int{}
	for mask := range 1 << 5 {
		var filled []api.Insn
		for k := range 5 {
			i := exit()
			if mask>>k&1 == 1 {
				i = wide()
			}
			filled = append(filled, i)
		}
		for from := range filled {
			for far := -12; far <= 12; far++ {
				for _, branch := range []api.Insn{ja(far), ja32(far), {Op: 0x1e, Dst: 1, Src: 2, Off: far}} {
					is := slices.Clone(filled)
					is[from] = branch
					told[checkObject(t, oneOf(is))]++
					told[checkObject(t, manyOf([]api.Insn{wide(), exit()}, is, []api.Insn{ja(-1)}))]++
				}
			}
		}
	}
	// Each of the five leads to each of the five, whatever is wide, in both objects.
	if told[api.OK] != 32*5*5*3*2 || len(told) != 2 {
		t.Errorf("told %v", told)
	}
}

// TestOwnFunction: a branch leads to no other function, be it to its first instruction or its last.
func TestOwnFunction(t *testing.T) {
	for _, row := range []struct {
		what string
		far  int
		want api.Errno
	}{
		{"to the first one ahead", -6, api.ErrDisasmFlow},
		{"to the last one ahead", -4, api.ErrDisasmFlow},
		{"into the last one ahead", -3, api.ErrDisasmFlow},
		{"to its function's first", -2, api.OK},
		{"to itself", -1, api.OK},
		{"to its function's last", 0, api.OK},
		{"to the first one behind", 1, api.ErrDisasmFlow},
		{"to the last one behind", 2, api.ErrDisasmFlow},
		{"to the text's end", 3, api.ErrDisasmFlow},
	} {
		for _, i := range eachBranch() {
			o := manyOf([]api.Insn{exit(), exit(), wide()}, []api.Insn{exit(), leading(i, row.far), exit()}, exits(2))
			if row.want != api.OK {
				checkRefused(t, row.what, o, 4, row.want)
			} else if e := checkObject(t, o); e != api.OK {
				t.Errorf("P14.1: %s: %d, want OK", row.what, e)
			}
		}
	}
}

// TestFirstBranch: of several that lead nowhere the first is told, by its number in the whole text.
func TestFirstBranch(t *testing.T) {
	for _, row := range []struct {
		what string
		o    api.Object
		at   int
	}{
		{"two of one function", oneOf(wides(2), []api.Insn{ja(0), ja(9), ja(9), exit()}), 3},
		{"one of each function", manyOf(append(wides(2), ja(-1)), append(wides(3), ja32(1), exit()), []api.Insn{ja(5)}), 6},
		{"the last one alone", manyOf(append(wides(2), ja(-1)), append(wides(3), ja32(0), exit()), []api.Insn{exit(), ja(5)}), 9},
		{"one that is never reached", oneOf([]api.Insn{exit(), exit(), ja(-4)}), 2},
		{"a first and a last one", manyOf([]api.Insn{ja(1), exit()}, []api.Insn{ja(7)}), 0},
	} {
		checkRefused(t, row.what, row.o, row.at, api.ErrDisasmFlow)
	}
}

// TestNoBranches: what is no branch leads nowhere, whatever numbers stand in the fields.
func TestNoBranches(t *testing.T) {
	for _, i := range eachInsn() {
		if branches(i.Op) || i.Op == 0x85 && i.Src == 1 || i.Op == 0x18 && i.Src == 1 {
			continue
		}
		m, at, e := Module(oneOf([]api.Insn{i}))
		if at != 0 || e != api.OK || m.Funcs[0].Body[0] != (api.Step{Insn: i, Branch: -1}) {
			t.Errorf("P14.1: Module of %+v = %+v, %d, %d", i, m, at, e)
		}
	}
}

// eachList calls f with all lists of one to so many of the items.
func eachList[E any](items []E, most int, f func([]E)) {
	var grow func([]E)
	grow = func(ahead []E) {
		if len(ahead) > 0 {
			f(ahead)
		}
		if len(ahead) == most {
			return
		}
		for _, x := range items {
			grow(append(ahead[:len(ahead):len(ahead)], x))
		}
	}
	grow(nil)
}

// cutInTwo gives the object of instructions, with each site's relocation, cut into two functions ahead of a number (0: one function).
func cutInTwo(is []api.Insn, cut int) api.Object {
	o := api.Object{Text: is, Tables: []api.TableDef{hash("s"), array("t")}, Externs: []string{"w", "x"}}
	if cut > 0 {
		o.Funcs = append(o.Funcs, api.ObjFunc{Name: "e", Global: true, Count: cut})
	}
	o.Funcs = append(o.Funcs, api.ObjFunc{Name: "f", First: cut, Count: len(is) - cut})
	for at, i := range is {
		switch i {
		case callSite():
			o.Relocs = append(o.Relocs, callTo(at, (at+cut)%(len(o.Funcs)+2)))
		case loadSite():
			o.Relocs = append(o.Relocs, loadOf(at, (at+cut)%2))
		}
	}
	return o
}

// TestShortObjects: all objects of few instructions, cut at each place.
func TestShortObjects(t *testing.T) {
	t.Parallel()
	items := []api.Insn{exit(), wide(), ja(-2), ja(1), ja32(0), ja32(-4), callSite(), loadSite(), {Op: 0x55, Dst: 1, Off: 2, Imm: 3}}
	told := map[api.Errno]int{}
	eachList(items, 4, func(list []api.Insn) {
		for cut := range len(list) {
			told[checkObject(t, cutInTwo(list, cut))]++
		}
	})
	if told[api.OK] < 3000 || told[api.ErrDisasmFlow] < 3000 || len(told) != 2 {
		t.Errorf("told %v", told)
	}
}

// someObject gives an object of chance, of any functions, in which most branches lead to an instruction of their own.
func someObject(r *rand.Rand) api.Object {
	o := api.Object{Tables: []api.TableDef{hash("t"), array("u")}, Externs: []string{"x"}}
	branch := eachBranch()
	funcs := 1 + r.Intn(4)
	for k := range funcs {
		first := len(o.Text)
		for range 1 + r.Intn(12) {
			o.Text = append(o.Text, []api.Insn{exit(), wide(), callSite(), loadSite(), branch[r.Intn(len(branch))], ja(0)}[r.Intn(6)])
		}
		o.Funcs = append(o.Funcs, api.ObjFunc{Name: "f" + strconv.Itoa(k), Global: r.Intn(2) == 0, First: first, Count: len(o.Text) - first})
	}
	for at, i := range o.Text {
		f := o.Funcs[readFunc(o, at)]
		switch {
		case branches(i.Op):
			to := f.First + r.Intn(f.Count)
			if r.Intn(40) == 0 {
				to = r.Intn(len(o.Text))
			}
			o.Text[at] = leading(i, readSlot(o, to)-readSlot(o, at)-1+r.Intn(50)/49)
		case i == callSite():
			o.Relocs = append(o.Relocs, callTo(at, r.Intn(funcs+1)))
		case i == loadSite():
			o.Relocs = append(o.Relocs, loadOf(at, r.Intn(2)))
		}
	}
	return o
}

// turned gives an object in which one number is another.
func turned(r *rand.Rand, o api.Object) api.Object {
	n := []int{0, 1, -1, 2, 3, 255, -32769, math.MaxInt32, math.MaxInt, math.MinInt}[r.Intn(10)]
	at := r.Intn(len(o.Text))
	f := r.Intn(len(o.Funcs))
	switch r.Intn(6) {
	case 0:
		o.Text[at].Op = n
	case 1:
		o.Text[at].Off = n
	case 2:
		o.Text[at].Imm = n
	case 3:
		o.Funcs[f].First = n
	case 4:
		o.Funcs[f].Count = n
	case 5:
		o.Relocs = append(o.Relocs, api.Reloc{At: n, Kind: 2, Name: at})
	}
	return o
}

func TestSomeObjects(t *testing.T) {
	t.Parallel()
	r := rand.New(rand.NewSource(142))
	told := map[api.Errno]int{}
	for range 20000 {
		o := someObject(r)
		told[checkObject(t, o)]++
		told[checkObject(t, turned(r, o))]++
	}
	for _, e := range []api.Errno{api.OK, api.ErrDisasmFlow, api.ErrObjectFunc, api.ErrObjectInsn, api.ErrObjectReloc} {
		if told[e] < 500 {
			t.Errorf("told %v", told)
		}
	}
}

// TestLongFunction: as many branches as there are slots, each as far off as may be.
func TestLongFunction(t *testing.T) {
	t.Parallel()
	const half = 32768
	o := oneOf(slices.Repeat([]api.Insn{ja(half - 1)}, half), slices.Repeat([]api.Insn{ja(-half)}, half))
	m, at, e := Module(o)
	if at != 0 || e != api.OK {
		t.Fatalf("P14.1: a long function of branches: %d, %d", at, e)
	}
	for k := range half {
		if forward, back := m.Funcs[0].Body[k].Branch, m.Funcs[0].Body[half+k].Branch; forward != half+k || back != k+1 {
			t.Fatalf("P14.1: branches %d and %d of a long function lead to %d and %d", k, half+k, forward, back)
		}
	}
	checkBack(t, o)
}

// TestLongObjects: as many functions, tables, externs and slots as may be, with the longest names and lines; the text is well below its bound.
func TestLongObjects(t *testing.T) {
	t.Parallel()
	name := func(what string, k int) string {
		return what + strings.Repeat("_", 59) + strconv.Itoa(1000+k)
	}
	o := api.Object{}
	for k := range 1024 {
		o.Externs = append(o.Externs, name("x", k))
		o.Tables = append(o.Tables, api.TableDef{Name: name("t", k), Kind: api.TableHash, Key: 64, Value: 4096, Entries: 1000})
		o.Funcs = append(o.Funcs, api.ObjFunc{Name: name("f", k), Global: true, First: 64 * k, Count: 64})
	}
	for at := range 65536 {
		o.Text = append(o.Text, callSite())
		o.Relocs = append(o.Relocs, callTo(at, at%2048))
	}
	checkBack(t, o)
	// The longest line of a branch, and each one's label.
	far := api.Insn{Op: 0xd6, Dst: 10, Off: 32767, Imm: math.MinInt32}
	long := oneOf(slices.Repeat([]api.Insn{far}, 32768), wides(16384))
	checkLead(t, "into a wide one", long, 1, -1)
	for at := range 32768 {
		long.Text[at].Off -= at % 2
	}
	checkBack(t, long)
}

// TestTooLong: what layer 12 refuses by its size, however long it is.
func TestTooLong(t *testing.T) {
	t.Parallel()
	checkLong := func(o api.Object, want int) {
		t.Helper()
		if m, at, e := Module(o); !same(m, api.Module{}) || at != want || e != api.ErrObjectMany {
			t.Errorf("P14.1: Module = %s, %d, %d, want %d, ErrObjectMany", short(m), at, e, want)
		}
		if s, at, e := Text(o); s != "" || at != want || e != api.ErrObjectMany {
			t.Errorf("P14.2: Text = %q, %d, %d, want %d, ErrObjectMany", short(s), at, e, want)
		}
	}
	checkLong(oneOf(exits(65537)), 0)
	checkLong(oneOf(exits(65535), wides(1)), 0)
	checkLong(oneOf(slices.Repeat([]api.Insn{ja32(1 << 22)}, 1<<21)), 0)
	checkLong(api.Object{Externs: slices.Repeat([]string{"x"}, 1<<20)}, 3)
}

// TestOfModules: a module that is an object's comes back.
func TestOfModules(t *testing.T) {
	t.Parallel()
	o, at, e := asm.Object(wholeModule())
	if !equal(o, whole()) || at != 0 || e != api.OK {
		t.Fatalf("asm.Object(whole) = %+v, %d, %d", o, at, e)
	}
	r := rand.New(rand.NewSource(143))
	for range 2000 {
		m, _, e := Module(someObject(r))
		if e != api.OK {
			continue
		}
		o, _, _ := asm.Object(m)
		if again, at, e := Module(o); !same(again, m) || at != 0 || e != api.OK {
			t.Fatalf("P14.3: Module = %+v, %d, %d, want %+v", again, at, e, m)
		}
	}
}
