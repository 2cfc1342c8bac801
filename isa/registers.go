package isa

import (
	"slices"

	"spindle/api"
)

// The functions here are asked of instructions that may be, each of its own form.

func atomicWrites(i api.Insn) []int {
	switch {
	case i.Imm == compareExchange:
		return []int{0}
	case i.Imm&fetchBit != 0:
		return []int{i.Src}
	}
	return nil
}

func binaryReads(i api.Insn) []int {
	switch {
	case !hasSource(i.Op) && moves(i.Op):
		return nil
	case !hasSource(i.Op):
		return []int{i.Dst}
	case moves(i.Op):
		return []int{i.Src}
	}
	return rising(i.Dst, i.Src)
}

func storeReads(i api.Insn) []int {
	if i.Op&classBits == classStore {
		return rising(i.Dst, i.Src)
	}
	return []int{i.Dst}
}

func atomicReads(i api.Insn) []int {
	if i.Imm == compareExchange {
		return rising(0, i.Dst, i.Src)
	}
	return rising(i.Dst, i.Src)
}

func branchReads(i api.Insn) []int {
	if hasSource(i.Op) {
		return rising(i.Dst, i.Src)
	}
	return []int{i.Dst}
}

func callReads(i api.Insn) []int {
	if i.Src == srcFunction {
		return registers(0, 9)
	}
	switch i.Imm {
	case api.HelpLookup, api.HelpDelete:
		return registers(1, 2)
	case api.HelpUpdate:
		return registers(1, 4)
	}
	return nil
}

// registers lists the registers from first to last.
func registers(first, last int) []int {
	var list []int
	for r := first; r <= last; r++ {
		list = append(list, r)
	}
	return list
}

// rising puts registers in order and leaves out those that stand twice.
func rising(list ...int) []int {
	own := slices.Clone(list)
	slices.Sort(own)
	return slices.Compact(own)
}
