package tidy

import (
	"slices"
	"testing"

	"spindle/api"
	"spindle/flow"
	"spindle/verify"
)

// Here what Image gives is read by the chapter's words. Layer 19 is asked whether it verifies and layer 18 what is reached; where jumps lead is sought slot by slot.

func readBody(im api.Image, f int) fn {
	return im.Text[im.Funcs[f].First:][:im.Funcs[f].Count]
}

func readWide(i api.Insn) int {
	if i.Op == 0x18 {
		return 2
	}
	return 1
}

func readSlots(f fn) int {
	n := 0
	for _, i := range f {
		n += readWide(i)
	}
	return n
}

func readJumps(i api.Insn) bool { return i.Op == 0x05 || i.Op == 0x06 }

// readTarget gives the number of the instruction to which a jump leads: slot by slot from the jump on.
func readTarget(f fn, at int) int {
	left := f[at].Off
	if f[at].Op == 0x06 {
		left = f[at].Imm
	}
	at++
	for ; left > 0; at++ {
		left -= readWide(f[at])
	}
	for ; left < 0; at-- {
		left += readWide(f[at-1])
	}
	return at
}

// readLast gives the last place of a jump, or -1 where it has none. As there are no more places than instructions, who has gone more ways than that goes round.
func readLast(f fn, at int) int {
	for range f {
		at = readTarget(f, at)
		if !readJumps(f[at]) {
			return at
		}
	}
	return -1
}

// readHolds tells whether the field of a jump holds the distance to a place.
func readHolds(f fn, at, place int) bool {
	distance := 0
	if place > at {
		distance = readSlots(f[at+1 : place])
	} else {
		distance = -readSlots(f[place : at+1])
	}
	least, most := -32768, 32767
	if f[at].Op == 0x06 {
		least, most = -1<<31, 1<<31-1
	}
	return least <= distance && distance <= most
}

// wantShape holds P24.1: what stays, and that no function is longer.
func wantShape(t *testing.T, im, got api.Image) {
	t.Helper()
	if f, at, e := verify.Check(got); e != api.OK {
		t.Fatalf("P24.1: of what Image gives Check tells %d, %d, %d; the image: %s; given: %s", f, at, e, short(im), short(got))
	}
	if len(got.Funcs) != len(im.Funcs) || !slices.Equal(got.Tables, im.Tables) || got.Entry != im.Entry {
		t.Fatalf("P24.1: Image gives other functions, tables or another entry; the image: %s; given: %s", short(im), short(got))
	}
	for f, g := range got.Funcs {
		if g.Name != im.Funcs[f].Name || g.Object != im.Funcs[f].Object || readSlots(readBody(got, f)) > readSlots(readBody(im, f)) {
			t.Fatalf("P24.1: the function %d is another one or longer; the image: %s; given: %s", f, short(im), short(got))
		}
	}
}

// readUntidy tells what P24.2 rules out of an instruction of a function, or nothing.
func readUntidy(f fn, at int) string {
	i := f[at]
	if i.Op == 0xbf && i.Off == 0 && i.Dst == i.Src {
		return "moves to itself"
	}
	if !readJumps(i) {
		return ""
	}
	target := readTarget(f, at)
	if target == at+1 {
		return "leads right behind it"
	}
	if !readJumps(f[target]) {
		return ""
	}
	if last := readLast(f, at); last >= 0 && readHolds(f, at, last) {
		return "leads to a jump"
	}
	return ""
}

// wantTidy holds P24.1 and P24.2 of what Image gives of an image, and P24.4.
func wantTidy(t *testing.T, im, got api.Image) {
	t.Helper()
	wantShape(t, im, got)
	graph, _ := flow.New(got)
	for f := range got.Funcs {
		reached, _ := graph.Reached(f)
		if at := slices.Index(reached, false); at >= 0 {
			t.Fatalf("P24.2: the instruction %d of function %d is not reached; the image: %s; given: %s", at, f, short(im), short(got))
		}
		body := readBody(got, f)
		for at := range body {
			if wrong := readUntidy(body, at); wrong != "" {
				t.Fatalf("P24.2: the instruction %d of function %d %s; the image: %s; given: %s", at, f, wrong, short(im), short(got))
			}
		}
	}
	again, e := Image(got)
	if e != api.OK || readSlots(again.Text) > readSlots(got.Text) {
		t.Fatalf("P24.4: Image of what Image gives has %d slots of %d, %d; given: %s", readSlots(again.Text), readSlots(got.Text), e, short(got))
	}
	// No more slots in all, and in none of its functions.
	wantShape(t, got, again)
}

// stepsOf gives the steps of a function of an image that verifies.
func stepsOf(t *testing.T, im api.Image, f int) body {
	t.Helper()
	graph, e := flow.New(im)
	if e != api.OK {
		t.Fatalf("flow.New tells %d: %s", e, short(im))
	}
	return bodyOf(im, graph, f)
}
