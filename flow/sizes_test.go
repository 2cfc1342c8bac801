package flow

import (
	"slices"
	"testing"

	"spindle/api"
)

const most = 1048576 // as many slots as an image may have

// wantAll: so many instructions are all reached, and each is asked for its next places. What went through the function for each would take hours.
func wantAll(t *testing.T, what string, f fn, next func(at int) []int) {
	t.Helper()
	g := graph(t, f)
	for at := range f {
		if x, e := g.Next(0, at); !slices.Equal(x, next(at)) || e != api.OK {
			t.Fatalf("P18.3: %s: Next(0, %d) = %v, %d, want %v", what, at, x, e, next(at))
		}
	}
	r, e := g.Reached(0)
	if at := slices.Index(r, false); at >= 0 || len(r) != len(f) || e != api.OK {
		t.Errorf("P18.7: %s: Reached tells %d, and not %d of %d", what, e, at, len(r))
	}
}

// countBlocks gives how many blocks a function has, and how many instructions these have in all.
func countBlocks(g *Graph, f int) (int, int) {
	blocks, instructions := 0, 0
	for b := range g.Blocks(f) {
		blocks++
		instructions += b.Count
	}
	return blocks, instructions
}

// TestDeepBranches: branches that lead through all of a function of a million, so that a walk is nested a million times.
func TestDeepBranches(t *testing.T) {
	t.Parallel()
	// Forward over all that are even, and backward over all that are odd.
	there := make(fn, most)
	for at := range there {
		there[at] = jeq(1 - 4*(at%2))
	}
	there[most-2], there[1] = jeq(0), jeq(-2)
	wantAll(t, "there and back", there, func(at int) []int {
		switch {
		case at == 1:
			return []int{0, 2}
		case at == most-2:
			return []int{most - 1}
		case at%2 == 1:
			return []int{at - 2, at + 1}
		}
		return []int{at + 1, at + 2}
	})
	wantAll(t, "forward", append(copies(most-1, only(jeq(0))), exit()), func(at int) []int {
		if at == most-1 {
			return nil
		}
		return []int{at + 1}
	})
	wantAll(t, "jumps", copies(most, only(ja(0))), func(at int) []int {
		if at == most-1 {
			return []int{-1}
		}
		return []int{at + 1}
	})
}

// TestStraight: a million instructions without a branch, and half as many wide ones.
func TestStraight(t *testing.T) {
	t.Parallel()
	for _, i := range []api.Insn{mov(1), lddw(1), calls(0), wrong()} {
		n, wide := most, 1
		if i.Op == 0x18 {
			n, wide = most/2, 2
		}
		g := graph(t, copies(n, only(i)))
		slots, _ := g.Slots(0)
		for at, slot := range slots {
			if slot != wide*at {
				t.Fatalf("P18.2: slot %d of instruction %d, want %d", slot, at, wide*at)
			}
		}
		wantBlock, wantReach := 1, n
		if i == wrong() {
			wantBlock, wantReach = n, 1
		}
		if blocks, all := countBlocks(g, 0); blocks != wantBlock || all != n || len(slots) != n {
			t.Errorf("P18.4: %d blocks of %d instructions, want %d of %d", blocks, all, wantBlock, n)
		}
		r, _ := g.Reached(0)
		if reach := len(slices.DeleteFunc(r, func(is bool) bool { return !is })); reach != wantReach {
			t.Errorf("P18.7: %d are reached, want %d", reach, wantReach)
		}
		if i == calls(0) {
			wantCalls(t, g, 0, places(0), api.OK)
			wantDeepest(t, g, 0, 0, true, api.OK)
		}
	}
}

// TestBackward: a loop from the end of a million to its beginning, and branches to one place from many.
func TestBackward(t *testing.T) {
	t.Parallel()
	g := graph(t, append(copies(most-1, only(mov(1))), ja32(-most)))
	wantNext(t, g, 0, most-1, places(0), api.OK)
	wantBlocks(t, g, 0, block(0, most, 0))
	g = graph(t, append(copies(most-1, only(mov(1))), ja32(-most/2)))
	wantNext(t, g, 0, most-1, places(most/2), api.OK)
	wantBlocks(t, g, 0, block(0, most/2, most/2), block(most/2, most/2, most/2))
	many := make(fn, 0, 32768)
	for at := range cap(many) {
		many = append(many, jeq(-1-at))
	}
	g = graph(t, many)
	for at := range many {
		wantNext(t, g, 0, at, places(0, at+1), api.OK)
	}
	// Leaving early is not going through all of it.
	g = graph(t, copies(most, only(jeq(0))))
	for range 200000 {
		for b := range g.Blocks(0) {
			if !sameBlock(b, block(0, 1, 1)) {
				t.Fatalf("P18.4: the first block is %+v", b)
			}
			break
		}
	}
}

// wantDepths asks for the longest way of each function, 0 for a circle.
func wantDepths(t *testing.T, what string, fs []fn, want func(f int) int) {
	t.Helper()
	g := graph(t, fs...)
	for f := range fs {
		if n, circle, e := g.Deepest(f); n != want(f) || circle != (want(f) == 0) || e != api.OK {
			t.Fatalf("P18.6: %s: Deepest(%d) = %d, %t, %d, want %d", what, f, n, circle, e, want(f))
		}
	}
}

// TestLongCalls: as many functions as an image may have, each of which calls the next or the one ahead.
func TestLongCalls(t *testing.T) {
	t.Parallel()
	chain := func(by int) []fn {
		fs := make([]fn, 4096)
		for f := range fs {
			fs[f] = only(calls(f + by))
		}
		return fs
	}
	wantDepths(t, "forward", chain(1), func(f int) int { return 4096 - f })
	wantDepths(t, "backward", chain(-1), func(f int) int { return f + 1 })
	wantDepths(t, "each itself", chain(0), func(f int) int { return 0 })
	fs := chain(1)
	fs[4095] = only(calls(0))
	wantDepths(t, "round", fs, func(f int) int { return 0 })
	fs[4095], fs[2000] = only(exit()), only(calls(2000))
	wantDepths(t, "a circle in the midst", fs, func(f int) int {
		if f <= 2000 {
			return 0
		}
		return 4096 - f
	})
}

// TestManyWays: a million calls, over which there are more ways than could ever be gone through one by one, each function asked.
func TestManyWays(t *testing.T) {
	t.Parallel()
	fs := make([]fn, 4096)
	var want [][]int
	for f := range fs {
		var callees []int
		for k := range min(255, 4095-f) {
			fs[f] = append(fs[f], calls(f+1+k))
			callees = append(callees, f+1+k)
		}
		// The calls stand in no order.
		slices.Reverse(fs[f][len(fs[f])/3:])
		fs[f] = append(fs[f], exit())
		want = append(want, callees)
	}
	wantDepths(t, "each the 255 behind it", fs, func(f int) int { return 4096 - f })
	g := graph(t, fs...)
	for f := range fs {
		wantCalls(t, g, f, want[f], api.OK)
	}
	fs[4095] = list(calls(4095))
	wantDepths(t, "with a circle at the end", fs, func(f int) int { return 0 })
	fs[4095] = list(calls(0))
	wantDepths(t, "all in one circle", fs, func(f int) int { return 0 })
}
