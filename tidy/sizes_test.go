package tidy

import (
	"slices"
	"testing"

	"spindle/api"
	"spindle/verify"
)

const most = 1048576 // as many slots as an image may have

// wantLong holds what Image gives of long functions. What went through them again for each place that changes would take hours.
func wantLong(t *testing.T, what string, before, after []fn) {
	t.Helper()
	got, e := Image(cut(before...))
	if wanted := cut(after...); e != api.OK || !same(got, wanted) {
		t.Fatalf("P24.1, P24.2: %s: Image gives %d instructions, %d: %s; want %d: %s", what, len(got.Text), e, short(got.Text), len(wanted.Text), short(wanted.Text))
	}
	if f, at, e := verify.Check(got); e != api.OK {
		t.Fatalf("P24.1: %s: Check tells %d, %d, %d", what, f, at, e)
	}
}

// wantOne holds what becomes of one long function.
func wantOne(t *testing.T, what string, before, after fn) {
	t.Helper()
	wantLong(t, what, []fn{before}, []fn{after})
}

// TestLongStraight: a million instructions that stay, and such as go but for one.
func TestLongStraight(t *testing.T) {
	t.Parallel()
	f := append(copies(most-1, list(mov(1))), exit())
	wantOne(t, "straight", f, f)
	f[0] = ja32(most - 2)
	wantOne(t, "over a million", f, list(exit()))
	f = append(copies(most/2-1, list(lddw(1))), exit())
	wantOne(t, "wide ones", f, f)
	f[0] = exit()
	wantOne(t, "behind an exit", f, list(exit()))
	f = append(copies(most-1, list(jeq(0))), exit())
	wantOne(t, "branches", f, f)
	f = append(copies(most-1, list(self(1))), exit())
	wantOne(t, "self moves", f, list(exit()))
	f[most-1] = ja32(-most)
	wantOne(t, "self moves, round", f, list(ja32(-1)))
}

// blocks gives so many pairs of a branch to the next pair and a jump, so that all jumps are reached; and then a mov and an exit.
func blocks(n int, jump func(k int) api.Insn) fn {
	var f fn
	for k := range n {
		f = append(f, jeq(1), jump(k))
	}
	return append(f, mov(1), exit())
}

// TestLongChains: jumps that lead to jumps, half a million one behind the other.
func TestLongChains(t *testing.T) {
	t.Parallel()
	const n = most/2 - 1
	next := func(int) api.Insn { return ja(1) }
	wantOne(t, "forward", blocks(n, next), blocks(n, func(k int) api.Insn { return jumping(2*n - 1 - 2*k) }))
	back := blocks(n, func(int) api.Insn { return ja32(-3) })
	back[1] = ja32(-2)
	wantOne(t, "backward", back, blocks(n, func(k int) api.Insn { return ja32(-2 - 2*k) }))
	f := append(list(ja32(most-2), exit()), copies(most-2, list(ja32(-2)))...)
	wantOne(t, "backward, none reached but by the first", f, list(exit()))
}

// TestLongCircles: circles of a million jumps, and half a million that come into one.
func TestLongCircles(t *testing.T) {
	t.Parallel()
	f := append(list(ja32(most-2)), copies(most-1, list(ja32(-2)))...)
	wantOne(t, "backward", f, f)
	f = append(copies(most-1, list(ja(0))), ja32(-most))
	wantOne(t, "forward", f, list(ja32(-1)))
	f = blocks(most/2-1, func(int) api.Insn { return ja(1) })
	f[most-3] = ja(-1)
	wantOne(t, "into one", f, f)
}

// TestLongIdle: jumps each of which is idle when the one behind it is gone.
func TestLongIdle(t *testing.T) {
	t.Parallel()
	f := append(copies(most-1, list(ja(0))), exit())
	wantOne(t, "each right behind", f, list(exit()))
	const n = 16000
	var cluster, wanted fn
	for range n {
		cluster = append(cluster, jeq(n-1))
	}
	for k := range n {
		cluster = append(cluster, ja(n-1-k))
		wanted = append(wanted, jeq(n-1-k))
	}
	cluster, wanted = append(cluster, mov(1)), append(wanted, mov(1))
	wantOne(t, "each to the end", append(copies(32, cluster), exit()), append(copies(32, wanted), exit()))
	f = append(copies(most/2-1, list(jeq(0), ja(0))), mov(1), exit())
	wantOne(t, "each between two branches", f, append(copies(most/2-1, list(jeq(0))), mov(1), exit()))
}

// TestLongFar: jumps whose last place comes near enough for their fields when others have been led on and what they led to is gone.
func TestLongFar(t *testing.T) {
	t.Parallel()
	const n = 16000
	before, after := blocks(n, func(k int) api.Insn { return ja(2*n - k) }), blocks(n, func(k int) api.Insn { return ja(2*n - 2*k) })
	for k := range n {
		before = append(before, ja32(n-1-k))
	}
	before, after = append(before, mov(2), exit()), append(after, mov(2), exit())
	wantLong(t, "near at last", slices.Repeat([]fn{before}, 21), slices.Repeat([]fn{after}, 21))
}

// TestManyFunctions: as many functions as an image may have.
func TestManyFunctions(t *testing.T) {
	t.Parallel()
	before := joined(list(ja(1), mov(2), jeq(1), ja(0)), copies(50, list(lddw(1), self(1), mov(3), ja(0))), list(jeq(-2), exit()))
	after := joined(list(jeq(0)), copies(50, list(lddw(1), mov(3))), list(jeq(-1), exit()))
	wantLong(t, "alike", slices.Repeat([]fn{before}, 4096), slices.Repeat([]fn{after}, 4096))
}
