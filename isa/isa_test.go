package isa

import (
	"math"
	"slices"
	"testing"

	"spindle/api"
)

// in makes an instruction in the order of the chapter's examples.
func in(op, dst, src, off, imm int) api.Insn {
	return api.Insn{Op: op, Dst: dst, Src: src, Off: off, Imm: imm}
}

func TestMayExamples(t *testing.T) {
	for _, c := range []struct {
		i    api.Insn
		want api.Errno
	}{
		{in(0x07, 10, 0, 0, -2147483648), api.OK},
		{in(0x07, 11, 0, 0, 0), api.ErrIsaField},
		{in(0x07, 0, 1, 0, 0), api.ErrIsaField},
		{in(0x0f, 0, 1, 0, 1), api.ErrIsaField},
		{in(0x37, 1, 0, 1, 5), api.OK},
		{in(0x37, 1, 0, 2, 5), api.ErrIsaField},
		{in(0x27, 1, 0, 1, 5), api.ErrIsaField},
		{in(0xbf, 1, 2, 32, 0), api.OK},
		{in(0xbc, 1, 2, 32, 0), api.ErrIsaField},
		{in(0xb7, 1, 0, 8, 0), api.ErrIsaField},
		{in(0x18, 1, 0, 0, 9223372036854775807), api.OK},
		{in(0x18, 1, 1, 0, 2147483648), api.ErrIsaField},
		{in(0x18, 1, 2, 0, 0), api.ErrIsaField},
		{in(0x8d, 0, 0, 0, 0), api.ErrIsaOpcode},
		{in(-1, 0, 0, 0, 0), api.ErrIsaOpcode},
		{in(256, 0, 0, 0, 0), api.ErrIsaOpcode},
		{in(-1, 11, -1, 1<<16, 1<<40), api.ErrIsaOpcode},
		{in(256, 11, -1, 1<<16, 1<<40), api.ErrIsaOpcode},
		{in(0x95, 0, 0, 0, 0), api.OK},
		{in(0x95, 0, 0, 0, 1), api.ErrIsaField},
	} {
		if got := May(c.i); got != c.want {
			t.Errorf("P2.1: May(%+v) = %d, want %d", c.i, got, c.want)
		}
	}
}

func TestInfoExamples(t *testing.T) {
	for _, c := range []struct {
		op   int
		want api.Use
	}{
		{0x3f, api.Use{Form: api.FormBinary, Group: api.GroupDivMul, Dst: true, Src: true}},
		{0xdb, api.Use{Form: api.FormAtomic, Group: api.GroupAtomic, Dst: true, Src: true, Off: true}},
		{0x85, api.Use{Form: api.FormCall, Group: api.GroupBase, Imm: true}},
		{0x95, api.Use{Form: api.FormNone, Group: api.GroupBase}},
	} {
		if got, e := Info(c.op); got != c.want || e != api.OK {
			t.Errorf("P2.2: Info(%#x) = %+v, %d, want %+v", c.op, got, e, c.want)
		}
	}
}

func TestRegisterExamples(t *testing.T) {
	for _, c := range []struct {
		name string
		call func(api.Insn) []int
		i    api.Insn
		want []int
	}{
		{"P2.4: Writes", Writes, in(0x85, 0, 1, 0, 7), []int{0, 1, 2, 3, 4, 5}},
		{"P2.4: Writes", Writes, in(0xdb, 1, 2, 0, 0xe1), []int{2}},
		{"P2.4: Writes", Writes, in(0xdb, 1, 2, 0, 0xf1), []int{0}},
		{"P2.4: Writes", Writes, in(0xdb, 1, 2, 0, 0xa0), nil},
		{"P2.5: Reads", Reads, in(0xbf, 1, 2, 0, 0), []int{2}},
		{"P2.5: Reads", Reads, in(0x0f, 3, 3, 0, 0), []int{3}},
		{"P2.5: Reads", Reads, in(0xdb, 2, 1, 0, 0xf1), []int{0, 1, 2}},
		{"P2.5: Reads", Reads, in(0x85, 0, 0, 0, 2), []int{1, 2, 3, 4}},
		{"P2.5: Reads", Reads, in(0x95, 0, 0, 0, 0), []int{0}},
	} {
		if got := c.call(c.i); !slices.Equal(got, c.want) {
			t.Errorf("%s(%+v) = %v, want %v", c.name, c.i, got, c.want)
		}
	}
}

func TestJumpsExamples(t *testing.T) {
	for _, c := range []struct {
		i    api.Insn
		want int
	}{
		{in(0x05, 0, 0, 5, 0), api.JumpAlways},
		{in(0x15, 0, 0, 5, 0), api.JumpMaybe},
		{in(0x85, 0, 0, 0, 1), api.JumpNone},
		{in(0x85, 0, 1, 0, 1), api.JumpCall},
	} {
		if got := Jumps(c.i); got != c.want {
			t.Errorf("P2.6: Jumps(%+v) = %d, want %d", c.i, got, c.want)
		}
	}
}

// everyOp goes over the numbers from below 0 to above 255, and far ones whose low bits are an opcode's.
func everyOp() []int {
	list := []int{math.MinInt, math.MinInt + 0x95, math.MaxInt, 1<<32 + 0x95, 1<<16 + 0x07, -256 + 0x95}
	for op := -300; op <= 600; op++ {
		list = append(list, op)
	}
	return list
}

func TestInfoOfEveryNumber(t *testing.T) {
	table := byOp()
	for _, op := range everyOp() {
		use, e := Info(op)
		known := table[op]
		if len(known) == 0 {
			if e != api.ErrIsaOpcode || use != (api.Use{}) {
				t.Errorf("P2.2: Info(%#x) = %+v, %d, want zeros and ErrIsaOpcode", op, use, e)
			}
			continue
		}
		if e != api.OK || use != known[0].use() {
			t.Errorf("P2.2: Info(%#x) = %+v, %d, want %+v", op, use, e, known[0].use())
		}
	}
}

func TestMayOfNoOpcode(t *testing.T) {
	table := byOp()
	for _, op := range everyOp() {
		if len(table[op]) > 0 {
			continue
		}
		for _, i := range []api.Insn{in(op, 0, 0, 0, 0), in(op, 11, 0, 0, 0), in(op, -1, -1, 1<<20, 1<<40)} {
			if got := May(i); got != api.ErrIsaOpcode {
				t.Errorf("P2.1: May(%+v) = %d, want ErrIsaOpcode", i, got)
			}
			if w, r, j := Writes(i), Reads(i), Jumps(i); len(w) != 0 || len(r) != 0 || j != api.JumpNone {
				t.Errorf("P2.4 to P2.6: of %+v: writes %v, reads %v, jumps %d", i, w, r, j)
			}
		}
	}
}

// checkAgainst holds all that is told of an instruction against the table.
func checkAgainst(t *testing.T, table map[int][]row, i api.Insn) {
	r, found := find(table, i)
	if !found {
		r = row{reads: nothing, writes: nothing}
	}
	if got := May(i); found && got != api.OK || !found && got != api.ErrIsaField {
		t.Errorf("P2.1: May(%+v) = %d, in the table: %v", i, got, found)
	}
	if got, want := Writes(i), r.writes(i); !slices.Equal(got, want) {
		t.Errorf("P2.4: Writes(%+v) = %v, want %v", i, got, want)
	}
	if got, want := Reads(i), r.reads(i); !slices.Equal(got, want) {
		t.Errorf("P2.5: Reads(%+v) = %v, want %v", i, got, want)
	}
	if got := Jumps(i); got != r.jumps {
		t.Errorf("P2.6: Jumps(%+v) = %d, want %d", i, got, r.jumps)
	}
}

func TestFieldsAtTheirBounds(t *testing.T) {
	table := byOp()
	few := []int{-1, 0, 1, 2, 10, 11}
	for _, op := range Ops() {
		for _, dst := range few {
			for _, src := range few {
				for _, off := range offEdges {
					for _, imm := range immEdges {
						checkAgainst(t, table, in(op, dst, src, off, imm))
					}
				}
			}
		}
		if t.Failed() {
			t.Fatalf("at opcode %#x", op)
		}
	}
}

func TestRegistersAtTheirBounds(t *testing.T) {
	table := byOp()
	for _, op := range Ops() {
		for _, dst := range registerEdges {
			for _, src := range registerEdges {
				for _, off := range []int{0, 1, 8, 16, 32} {
					for _, imm := range []int{0, 1, 2, 3, 4, 16, 64, 0x40, 0xa1, 0xe1, 0xf1} {
						checkAgainst(t, table, in(op, dst, src, off, imm))
					}
				}
			}
		}
	}
}

// TestFixedNumbers goes over each small number of a field that a row fixes.
func TestFixedNumbers(t *testing.T) {
	table := byOp()
	for _, op := range Ops() {
		for n := -300; n <= 300; n++ {
			checkAgainst(t, table, in(op, 1, 0, n, 0))
			checkAgainst(t, table, in(op, 1, 2, n, 0))
			checkAgainst(t, table, in(op, 1, 2, 0, n))
			checkAgainst(t, table, in(op, 1, 0, 0, n))
			checkAgainst(t, table, in(op, 0, 0, 0, n))
			checkAgainst(t, table, in(op, 0, n, 0, 1))
			checkAgainst(t, table, in(op, 0, n, 0, 16))
		}
	}
}

func TestWide(t *testing.T) {
	for _, op := range everyOp() {
		for _, i := range []api.Insn{in(op, 0, 0, 0, 0), in(op, 99, -5, 1<<20, 7), in(op, 1, 2, 3, math.MaxInt)} {
			if got := Wide(i); got != (op == 0x18) {
				t.Errorf("P2.3: Wide(%+v) = %v", i, got)
			}
		}
	}
}

func TestOps(t *testing.T) {
	var want []int
	for op := range byOp() {
		want = append(want, op)
	}
	slices.Sort(want)
	got := Ops()
	if len(got) != 119 || !slices.Equal(got, want) {
		t.Errorf("P2.7: Ops() = %#x, want the %d opcodes %#x", got, len(want), want)
	}
}

// taken gives instructions that may be, some of each row.
func taken() []api.Insn {
	var list []api.Insn
	for _, r := range rows() {
		for _, dst := range []int{0, 7, 10} {
			for _, src := range []int{0, 1, 10} {
				for _, off := range append([]int{0, -32768, 32767}, r.offs...) {
					for _, imm := range append([]int{0, -2147483648, 2147483647}, r.imms...) {
						if i := in(r.op, dst, src, off, imm); r.takes(i) {
							list = append(list, i)
						}
					}
				}
			}
		}
	}
	return list
}

// fixes tells whether some row of the opcode fixes the field to n.
func fixes(known []row, n int, fixed func(row) []int) bool {
	return slices.ContainsFunc(known, func(r row) bool { return slices.Contains(fixed(r), n) })
}

func TestUnusedFieldsStayZero(t *testing.T) {
	table := byOp()
	refused := func(i api.Insn) {
		if got := May(i); got != api.ErrIsaField {
			t.Errorf("P2.8: May(%+v) = %d, want ErrIsaField: a field that the opcode does not use is changed", i, got)
		}
	}
	for _, i := range taken() {
		use, e := Info(i.Op)
		if May(i) != api.OK || e != api.OK {
			t.Fatalf("P2.8: %+v: May %d, Info %d", i, May(i), e)
		}
		known := table[i.Op]
		for _, n := range []int{-1, 1, 2, 8, 16, 64, 0xf0, 32767, 1 << 33, math.MinInt} {
			if !use.Dst {
				refused(in(i.Op, n, i.Src, i.Off, i.Imm))
			}
			if !use.Src && !fixes(known, n, func(r row) []int { return r.srcs }) {
				refused(in(i.Op, i.Dst, n, i.Off, i.Imm))
			}
			if !use.Off && !fixes(known, n, func(r row) []int { return r.offs }) {
				refused(in(i.Op, i.Dst, i.Src, n, i.Imm))
			}
			if !use.Imm && !fixes(known, n, func(r row) []int { return r.imms }) {
				refused(in(i.Op, i.Dst, i.Src, i.Off, n))
			}
		}
	}
}

func TestRegistersThatAreTold(t *testing.T) {
	for _, i := range taken() {
		for _, list := range [][]int{Writes(i), Reads(i)} {
			for k, r := range list {
				if !between(r, 0, 10) || k > 0 && list[k-1] >= r {
					t.Errorf("P2.8: of %+v: %v", i, list)
				}
			}
		}
	}
}

func TestAnswersAreNewMemory(t *testing.T) {
	for _, i := range taken() {
		for _, call := range []func(api.Insn) []int{Writes, Reads} {
			checkNewMemory(t, i, func() []int { return call(i) })
		}
	}
	checkNewMemory(t, api.Insn{}, Ops)
}

// checkNewMemory spoils an answer, its spare room too, and asks again.
func checkNewMemory(t *testing.T, i api.Insn, call func() []int) {
	first, second := call(), call()
	want := slices.Clone(first)
	whole := first[:cap(first)]
	for k := range whole {
		whole[k] = 99
	}
	if third := call(); !slices.Equal(second, want) || !slices.Equal(third, want) {
		t.Errorf("R4: of %+v: %v and then %v, want %v: an answer shares memory", i, second, third, want)
	}
}
