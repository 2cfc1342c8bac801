package verify

import (
	"slices"
	"testing"

	"spindle/api"
)

const most = 1048576 // as many slots as an image may have

// wantLong holds what Check alone tells of a long image.
func wantLong(t *testing.T, what string, im api.Image, f, at int, e api.Errno) {
	t.Helper()
	if have := checked(im); have != (answer{f, at, e}) {
		t.Errorf("P19.1: %s: Check = %+v, want {%d, %d, %d}", what, have, f, at, e)
	}
}

// TestLong: a million instructions in one function, right, and wrong at the last or the one ahead. What went through the function for each would take hours.
func TestLong(t *testing.T) {
	t.Parallel()
	for _, i := range []api.Insn{mov(1), jeq(0), ja32(-1)} {
		f := slices.Repeat(list(i), most)
		f[most-1] = exit()
		wantLong(t, "right", cut(f), 0, 0, api.OK)
		f[most-2] = top()
		wantLong(t, "the one ahead of the last", cut(f), 0, most-2, api.ErrVerifyWrite)
		f[most-2], f[most-1] = i, ja32(-most)
		wantLong(t, "round", cut(f), 0, 0, api.OK)
		f[most-1] = ja32(-most - 1)
		wantLong(t, "round and one too far", cut(f), 0, most-1, api.ErrVerifyTarget)
		f[most-1] = mov(0)
		wantLong(t, "falls off", cut(f), 0, most-1, api.ErrVerifyFall)
	}
	wide := slices.Repeat(list(ldmap(0)), most/2-1)
	im := tabled(cut(append(wide, list(ja32(1-most), exit())...)), 1)
	wantLong(t, "wide ones", im, 0, 0, api.OK)
	im.Text[len(im.Text)-2].Imm = 2 - most
	wantLong(t, "into the first wide one", im, 0, len(im.Text)-2, api.ErrVerifyTarget)
}

// TestManyFunctions: as many functions as an image may have, their names falling, and one wrong.
func TestManyFunctions(t *testing.T) {
	t.Parallel()
	im := cut(slices.Repeat([]fn{slices.Concat(slices.Repeat(list(mov(0)), 255), list(exit()))}, 4096)...)
	for f := range im.Funcs {
		im.Funcs[f].Name = "f" + string(rune('z'-f/512)) + string(rune('z'-f/64%8)) + string(rune('z'-f%64/8)) + string(rune('z'-f%8))
	}
	want(t, "right", im, 0, 0, api.OK)
	for _, at := range []int{0, 255, most - 1} {
		i := im.Text[at]
		im.Text[at] = top()
		e := api.ErrVerifyWrite
		if i == exit() {
			e = api.ErrVerifyFall
		}
		want(t, "one wrong", im, at/256, at%256, e)
		im.Text[3] = wrong()
		if at > 256 {
			wantLong(t, "the last of the image is the first", im, at/256, at%256, e)
		}
		im.Text[3], im.Text[at] = mov(0), i
	}
}

// chain gives as many functions as an image may have, each of which calls the one that is so many behind it, if it is there.
func chain(by int) []fn {
	fs := make([]fn, 4096)
	for f := range fs {
		fs[f] = ways()
		if f+by >= 0 && f+by < len(fs) {
			fs[f] = ways(f + by)
		}
	}
	return fs
}

// numbered gives an image whose functions' names rise or fall.
func numbered(falling bool, fs ...fn) api.Image {
	im := cut(fs...)
	for f := range fs {
		n := f
		if falling {
			n = len(fs) - 1 - f
		}
		im.Funcs[f].Name = "f" + string(rune('0'+n/1000)) + string(rune('0'+n/100%10)) + string(rune('0'+n/10%10)) + string(rune('0'+n%10))
	}
	return im
}

// TestLongChains: ways of calls through all functions, told in both orders of their names.
func TestLongChains(t *testing.T) {
	t.Parallel()
	want(t, "forward", numbered(false, chain(1)...), 0, 0, api.ErrVerifyDeep)
	want(t, "backward", numbered(false, chain(-1)...), 8, 0, api.ErrVerifyDeep)
	want(t, "forward, falling", numbered(true, chain(1)...), 4087, 0, api.ErrVerifyDeep)
	want(t, "backward, falling", numbered(true, chain(-1)...), 4095, 0, api.ErrVerifyDeep)
	want(t, "each itself", numbered(true, chain(0)...), 4095, 0, api.ErrVerifyDeep)
	want(t, "eight in each chain", numbered(false, chain(512)...), 0, 0, api.OK)
	want(t, "eight in each chain, falling", numbered(true, chain(512)...), 0, 0, api.OK)
	want(t, "nine in some chains", numbered(false, chain(511)...), 0, 0, api.ErrVerifyDeep)
	want(t, "nine in some chains, falling", numbered(true, chain(511)...), 7, 0, api.ErrVerifyDeep)
	round := chain(1)
	round[4095] = ways(0)
	want(t, "round", numbered(false, round...), 0, 0, api.ErrVerifyDeep)
	circle := chain(512)
	circle[4095] = ways(4095)
	want(t, "a circle at the end of one", numbered(false, circle...), 511, 0, api.ErrVerifyDeep)
	want(t, "a circle at the end of one, falling", numbered(true, circle...), 4095, 0, api.ErrVerifyDeep)
}

// TestManyWays: a million calls between eight rows of functions, over which there are more ways than could ever be gone through one by one.
func TestManyWays(t *testing.T) {
	t.Parallel()
	fs := make([]fn, 4096)
	for f := range fs {
		var callees []int
		for k := range 255 {
			if row := f/512 + 1; row < 8 {
				callees = append(callees, 512*row+(f+2*k)%512)
			}
		}
		fs[f] = ways(callees...)
	}
	for _, falling := range []bool{false, true} {
		wantLong(t, "eight rows", numbered(falling, fs...), 0, 0, api.OK)
	}
	// One more function behind one of the last row: the one of the first row that is told comes to it.
	last := fs[4094]
	fs[4094] = ways(4095)
	wantLong(t, "nine", numbered(false, fs...), 0, 0, api.ErrVerifyDeep)
	fs[4094] = ways(1)
	wantLong(t, "a circle over all rows", numbered(false, fs...), 0, 0, api.ErrVerifyDeep)
	wantLong(t, "a circle over all rows, falling", numbered(true, fs...), 4094, 0, api.ErrVerifyDeep)
	fs[4094] = last
	fs[0] = slices.Concat(slices.Repeat(list(calls(0)), 200), fs[0])
	wantLong(t, "the first itself", numbered(false, fs...), 0, 0, api.ErrVerifyDeep)
	wantLong(t, "the first itself, falling", numbered(true, fs...), 0, 0, api.ErrVerifyDeep)
}
