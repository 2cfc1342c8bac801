package isa

import (
	"math"
	"slices"

	"spindle/api"
)

// row is one row of the table of instructions (DOC.md, Instructions), one opcode of it, written down anew for the tests. A field that has fixed numbers has just these; one that is neither used nor fixed is 0.
type row struct {
	op                 int
	form, group        int
	dst, src, off, imm bool
	srcs, offs, imms   []int
	anyImm             bool
	reads, writes      func(api.Insn) []int
	jumps              int
}

var (
	arithmetic = []int{0x00, 0x10, 0x20, 0x30, 0x40, 0x50, 0x60, 0x70, 0x90, 0xa0, 0xb0, 0xc0}
	compares   = []int{0x10, 0x20, 0x30, 0x40, 0x50, 0x60, 0x70, 0xa0, 0xb0, 0xc0, 0xd0}
	tenImms    = []int{0x00, 0x40, 0x50, 0xa0, 0x01, 0x41, 0x51, 0xa1, 0xe1, 0xf1}
)

func nothing(api.Insn) []int        { return nil }
func onlyDst(i api.Insn) []int      { return []int{i.Dst} }
func onlySrc(i api.Insn) []int      { return []int{i.Src} }
func dstAndSrc(i api.Insn) []int    { return set(i.Dst, i.Src) }
func zeroToFive(api.Insn) []int     { return []int{0, 1, 2, 3, 4, 5} }
func onlyZero(i api.Insn) []int     { return []int{0} }
func set(list ...int) []int         { slices.Sort(list); return slices.Compact(list) }
func between(n, low, high int) bool { return low <= n && n <= high }

// rows gives the whole table.
func rows() []row {
	return slices.Concat(arithmeticRows(), variantRows(), unaryRows(), memoryRows(), atomicRows(), branchRows(), otherRows())
}

func arithmeticRows() []row {
	var list []row
	for _, base := range []int{0x07, 0x04} {
		for _, a := range arithmetic {
			r := row{op: base + a, form: api.FormBinary, group: api.GroupBase, dst: true, imm: true, reads: onlyDst, writes: onlyDst}
			s := row{op: base + a + 0x08, form: api.FormBinary, group: api.GroupBase, dst: true, src: true, reads: dstAndSrc, writes: onlyDst}
			if a == 0x20 || a == 0x30 || a == 0x90 {
				r.group, s.group = api.GroupDivMul, api.GroupDivMul
			}
			if a == 0xb0 {
				r.reads, s.reads = nothing, onlySrc
			}
			list = append(list, r, s)
		}
	}
	return list
}

// variantRows: sdiv, smod and movs8 and their like, told by Off.
func variantRows() []row {
	var list []row
	for _, op := range []int{0x37, 0x97, 0x34, 0x94} {
		list = append(list,
			row{op: op, form: api.FormBinary, group: api.GroupDivMul, dst: true, imm: true, offs: []int{1}, reads: onlyDst, writes: onlyDst},
			row{op: op + 0x08, form: api.FormBinary, group: api.GroupDivMul, dst: true, src: true, offs: []int{1}, reads: dstAndSrc, writes: onlyDst})
	}
	return append(list,
		row{op: 0xbf, form: api.FormBinary, group: api.GroupBase, dst: true, src: true, offs: []int{8, 16, 32}, reads: onlySrc, writes: onlyDst},
		row{op: 0xbc, form: api.FormBinary, group: api.GroupBase, dst: true, src: true, offs: []int{8, 16}, reads: onlySrc, writes: onlyDst})
}

func unaryRows() []row {
	var list []row
	for _, op := range []int{0x87, 0x84} {
		list = append(list, row{op: op, form: api.FormUnary, group: api.GroupBase, dst: true, reads: onlyDst, writes: onlyDst})
	}
	for _, op := range []int{0xd4, 0xdc, 0xd7} {
		list = append(list, row{op: op, form: api.FormUnary, group: api.GroupBase, dst: true, imms: []int{16, 32, 64}, reads: onlyDst, writes: onlyDst})
	}
	return list
}

func memoryRows() []row {
	var list []row
	for _, op := range []int{0x71, 0x69, 0x61, 0x79, 0x91, 0x89, 0x81} {
		list = append(list, row{op: op, form: api.FormLoad, group: api.GroupBase, dst: true, src: true, off: true, reads: onlySrc, writes: onlyDst})
	}
	for _, op := range []int{0x72, 0x6a, 0x62, 0x7a} {
		list = append(list, row{op: op, form: api.FormStore, group: api.GroupBase, dst: true, off: true, imm: true, reads: onlyDst, writes: nothing})
	}
	for _, op := range []int{0x73, 0x6b, 0x63, 0x7b} {
		list = append(list, row{op: op, form: api.FormStore, group: api.GroupBase, dst: true, src: true, off: true, reads: dstAndSrc, writes: nothing})
	}
	return list
}

func atomicRows() []row {
	reads := func(i api.Insn) []int {
		if i.Imm == 0xf1 {
			return set(0, i.Dst, i.Src)
		}
		return set(i.Dst, i.Src)
	}
	writes := func(i api.Insn) []int {
		switch i.Imm {
		case 0xf1:
			return []int{0}
		case 0x01, 0x41, 0x51, 0xa1, 0xe1:
			return []int{i.Src}
		}
		return nil
	}
	var list []row
	for _, op := range []int{0xdb, 0xc3} {
		list = append(list, row{op: op, form: api.FormAtomic, group: api.GroupAtomic, dst: true, src: true, off: true, imms: tenImms, reads: reads, writes: writes})
	}
	return list
}

func branchRows() []row {
	var list []row
	for _, base := range []int{0x05, 0x06} {
		for _, c := range compares {
			list = append(list,
				row{op: base + c, form: api.FormBranch, group: api.GroupBase, dst: true, off: true, imm: true, reads: onlyDst, writes: nothing, jumps: api.JumpMaybe},
				row{op: base + c + 0x08, form: api.FormBranch, group: api.GroupBase, dst: true, off: true, src: true, reads: dstAndSrc, writes: nothing, jumps: api.JumpMaybe})
		}
	}
	return list
}

func otherRows() []row {
	helper := func(i api.Insn) []int {
		switch i.Imm {
		case 1, 4:
			return []int{1, 2}
		case 2:
			return []int{1, 2, 3, 4}
		}
		return nil
	}
	function := func(api.Insn) []int { return []int{0, 1, 2, 3, 4, 5, 6, 7, 8, 9} }
	return []row{
		{op: 0x05, form: api.FormJump, group: api.GroupBase, off: true, reads: nothing, writes: nothing, jumps: api.JumpAlways},
		{op: 0x06, form: api.FormJump, group: api.GroupBase, imm: true, reads: nothing, writes: nothing, jumps: api.JumpAlways},
		{op: 0x85, form: api.FormCall, group: api.GroupBase, imm: true, srcs: []int{0}, reads: helper, writes: zeroToFive},
		{op: 0x85, form: api.FormCall, group: api.GroupBase, imm: true, srcs: []int{1}, reads: function, writes: zeroToFive, jumps: api.JumpCall},
		{op: 0x95, form: api.FormNone, group: api.GroupBase, reads: onlyZero, writes: nothing, jumps: api.JumpExit},
		{op: 0x18, form: api.FormWide, group: api.GroupBase, dst: true, imm: true, anyImm: true, srcs: []int{0}, reads: nothing, writes: onlyDst},
		{op: 0x18, form: api.FormWide, group: api.GroupBase, dst: true, imm: true, srcs: []int{1}, reads: nothing, writes: onlyDst},
	}
}

// takes tells whether the row has the instruction.
func (r row) takes(i api.Insn) bool {
	return i.Op == r.op &&
		fieldIn(i.Dst, r.dst, 0, 10, nil) &&
		fieldIn(i.Src, r.src, 0, 10, r.srcs) &&
		fieldIn(i.Off, r.off, -32768, 32767, r.offs) &&
		(r.anyImm || fieldIn(i.Imm, r.imm, -2147483648, 2147483647, r.imms))
}

func fieldIn(n int, used bool, low, high int, fixed []int) bool {
	switch {
	case used:
		return between(n, low, high)
	case fixed != nil:
		return slices.Contains(fixed, n)
	}
	return n == 0
}

// use is what Info is to answer for the row's opcode.
func (r row) use() api.Use {
	return api.Use{Form: r.form, Group: r.group, Dst: r.dst, Src: r.src, Off: r.off, Imm: r.imm}
}

// byOp gives the rows of each opcode.
func byOp() map[int][]row {
	table := map[int][]row{}
	for _, r := range rows() {
		table[r.op] = append(table[r.op], r)
	}
	return table
}

// find gives the row that has the instruction.
func find(table map[int][]row, i api.Insn) (row, bool) {
	for _, r := range table[i.Op] {
		if r.takes(i) {
			return r, true
		}
	}
	return row{}, false
}

// Numbers at the fields' bounds, beside them, and those that some row fixes.
var (
	registerEdges = []int{math.MinInt, -1, 0, 1, 2, 3, 9, 10, 11, 15, 16, 256, math.MaxInt}
	offEdges      = []int{math.MinInt, -65536, -32769, -32768, -1, 0, 1, 2, 7, 8, 9, 16, 17, 32, 33, 64, 32767, 32768, 65536, math.MaxInt}
	immEdges      = []int{math.MinInt, -1 << 32, -2147483649, -2147483648, -2, -1, 0, 1, 2, 3, 4, 5, 8, 15, 16, 17, 32, 33, 64, 65, 128,
		0x40, 0x41, 0x50, 0x51, 0xa0, 0xa1, 0xe0, 0xe1, 0xf0, 0xf1, 0xf2, 255, 2147483647, 2147483648, 1 << 32, math.MaxInt}
)
