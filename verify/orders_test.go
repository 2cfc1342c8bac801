package verify

import (
	"math/rand"
	"slices"
	"strings"
	"testing"

	"spindle/api"
	"spindle/asm"
	"spindle/image"
	"spindle/link"
)

// turned gives an image with its functions in another order: the k-th is the one with the number order[k]. The numbers of calls that may be are turned with it.
func turned(im api.Image, order []int) api.Image {
	now := make([]int, len(order))
	for k, f := range order {
		now[f] = k
	}
	other := api.Image{Tables: im.Tables, Entry: now[im.Entry]}
	for _, f := range order {
		g := im.Funcs[f]
		body := slices.Clone(readBody(im, f))
		for at, i := range body {
			if i.Op == 0x85 && i.Src == 1 && i.Imm >= 0 && i.Imm < len(now) {
				body[at].Imm = now[i.Imm]
			}
		}
		g.First = len(other.Text)
		other.Funcs = append(other.Funcs, g)
		other.Text = append(other.Text, body...)
	}
	return other
}

// orders gives all orders of n things.
func orders(n int) [][]int {
	if n == 0 {
		return [][]int{{}}
	}
	var all [][]int
	for _, order := range orders(n - 1) {
		for k := range n {
			all = append(all, slices.Insert(slices.Clone(order), k, n-1))
		}
	}
	return all
}

// wantTurned: in another order Check tells the same error, the same instruction, and the function of the same name and object.
func wantTurned(t *testing.T, im api.Image, order []int) {
	t.Helper()
	before, other := checked(im), turned(im, order)
	after := checked(other)
	same := before.at == after.at && before.e == after.e
	if before.e != api.OK && before.e != api.ErrVerifyImage {
		same = same && order[after.f] == before.f
	} else {
		same = same && after.f == 0
	}
	if !same {
		t.Fatalf("P19.3: Check = %+v, in the order %v %+v; the image: %s", before, order, after, short(im))
	}
}

// wantEntries: with any entry Check tells the same.
func wantEntries(t *testing.T, im api.Image) {
	t.Helper()
	before := checked(im)
	for f := range im.Funcs {
		im.Entry = f
		if after := checked(im); after != before {
			t.Fatalf("P19.3: Check = %+v, with the entry %d %+v; the image: %s", before, f, after, short(im))
		}
	}
}

// TestOrders: images of chance in all or some orders of their functions, as they come and put right.
func TestOrders(t *testing.T) {
	t.Parallel()
	r := rand.New(rand.NewSource(193))
	for range 1500 {
		im := chanceImage(r, 5, 6)
		fixed := mended(t, im)
		for _, order := range orders(len(im.Funcs)) {
			wantTurned(t, im, order)
			wantTurned(t, fixed, order)
		}
		wantEntries(t, im)
		wantEntries(t, fixed)
	}
	for range 5000 {
		im := chanceCalls(r)
		for range 3 {
			wantTurned(t, im, r.Perm(len(im.Funcs)))
		}
		wantEntries(t, im)
	}
}

// TestBytes: an image that is written and read again is told the same of.
func TestBytes(t *testing.T) {
	t.Parallel()
	r := rand.New(rand.NewSource(17))
	for range 3000 {
		im := chanceImage(r, 5, 8)
		b, _, e := image.Write(im)
		again, _, wrong := image.Read(b)
		if e != api.OK || wrong != api.OK {
			t.Fatalf("Write tells %d, Read %d", e, wrong)
		}
		if before, after := checked(im), checked(again); before != after {
			t.Fatalf("P19.1: Check = %+v, of its bytes %+v", before, after)
		}
	}
}

// TestLinked: objects in all orders give images that are all right or all wrong.
func TestLinked(t *testing.T) {
	t.Parallel()
	texts := func(last string) []string {
		return []string{
			".extern g|.extern h|.global m|.map t array 4 8 2|.func f|exit|.func m|call g|ldmap r1, t|call f|call h|exit",
			".global g|.extern h|.map s hash 1 8 2|.func f|exit|.func g|ldmap r2, s|call h|call f|lddw r0, 1|exit",
			".global h|.func h|ja x|lddw r1, 2|x: call f|exit|.func f|" + last,
		}
	}
	for last, wanted := range map[string]api.Errno{
		"exit": api.OK, "x: ja32 x": api.OK, "call 3|exit": api.OK, "mov r0, 1": api.ErrVerifyFall, "add r10, 8|exit": api.ErrVerifyWrite, "call 9|exit": api.ErrVerifyHelper, "call h|exit": api.ErrVerifyDeep,
	} {
		for _, order := range orders(3) {
			os := make([]api.Object, 3)
			for k, number := range order {
				o, line, e := asm.Assemble([]byte(strings.ReplaceAll(texts(last)[number], "|", "\n")))
				if e != api.OK {
					t.Fatalf("line %d: %d", line, e)
				}
				os[k] = o
			}
			im, name, e := link.Link(os, "m")
			if e != api.OK {
				t.Fatalf("%q: %d", name, e)
			}
			if a := check(t, im); a.e != wanted {
				t.Errorf("P19.3: %q in the order %v: Check = %+v, want %d", last, order, a, wanted)
			}
			wantEntries(t, im)
		}
	}
}
