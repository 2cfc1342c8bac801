package code

import (
	"bytes"
	"encoding/hex"
	"math/rand"
	"slices"
	"strings"
	"testing"

	"spindle/api"
	"spindle/isa"
)

// unhex gives the bytes that hex digits with blanks between them tell.
func unhex(s string) []byte {
	b, err := hex.DecodeString(strings.ReplaceAll(s, " ", ""))
	if err != nil {
		panic(err)
	}
	return b
}

func checkEncode(t *testing.T, name string, is []api.Insn, want []byte) {
	t.Helper()
	if b, at, e := Encode(is); !bytes.Equal(b, want) || at != 0 || e != api.OK {
		t.Errorf("P3.2: %s: Encode(%+v) = % x, %d, %d, want % x", name, is, b, at, e, want)
	}
}

func checkEncodeRefuses(t *testing.T, is []api.Insn, wantAt int, want api.Errno) {
	t.Helper()
	if b, at, e := Encode(is); len(b) != 0 || at != wantAt || e != want {
		t.Errorf("P3.2: Encode(%+v) = % x, %d, %d, want no bytes, %d, %d", is, b, at, e, wantAt, want)
	}
}

// checkDecode holds Decode of the bytes against a reading of them by the chapter's words.
func checkDecode(t *testing.T, b []byte) {
	t.Helper()
	want, wantAt, wantE := reading(b)
	is, at, e := Decode(b)
	if !slices.Equal(is, want) || at != wantAt || e != wantE {
		t.Errorf("P3.3: Decode(% x) = %+v, %d, %d, want %+v, %d, %d", b, is, at, e, want, wantAt, wantE)
	}
	if e != api.OK {
		return
	}
	if back, _, e := Encode(is); !bytes.Equal(back, b) || e != api.OK {
		t.Errorf("P3.4: Encode(Decode(% x)) = % x, %d", b, back, e)
	}
}

func checkDecodeRefuses(t *testing.T, b []byte, wantAt int, want api.Errno) {
	t.Helper()
	if is, at, e := Decode(b); len(is) != 0 || at != wantAt || e != want {
		t.Errorf("P3.3: Decode(% x) = %+v, %d, %d, want none, %d, %d", b, is, at, e, wantAt, want)
	}
}

func TestExamplesOfBytes(t *testing.T) {
	for _, c := range []struct {
		i     api.Insn
		bytes string
	}{
		{exit, "95 00 00 00 00 00 00 00"},
		{mov, "b7 01 00 00 ff ff ff ff"},
		{ldxdw, "79 12 f8 ff 00 00 00 00"},
		{lddw, "18 03 00 00 f0 de bc 9a 00 00 00 00 78 56 34 12"},
		{ldmap, "18 11 00 00 ff ff ff ff 00 00 00 00 ff ff ff ff"},
	} {
		b := unhex(c.bytes)
		checkEncode(t, "example", []api.Insn{c.i}, b)
		if is, at, e := Decode(b); !slices.Equal(is, []api.Insn{c.i}) || at != 0 || e != api.OK {
			t.Errorf("P3.3: Decode(%s) = %+v, %d, %d", c.bytes, is, at, e)
		}
	}
}

func TestExamplesOfErrors(t *testing.T) {
	exitBytes, lddwBytes, ldmapBytes := bytesOf(exit), bytesOf(lddw), bytesOf(ldmap)
	checkEncodeRefuses(t, []api.Insn{exit, nothing}, 1, api.ErrIsaOpcode)
	checkEncodeRefuses(t, []api.Insn{in(0x95, 0, 0, 0, 1)}, 0, api.ErrIsaField)

	checkDecodeRefuses(t, nil, 0, api.OK)
	checkDecodeRefuses(t, []byte{}, 0, api.OK)
	checkDecodeRefuses(t, append(exitBytes, 0x95), 1, api.ErrCodeCut)
	checkDecodeRefuses(t, lddwBytes[:8], 0, api.ErrCodeCut)
	spoiled := slices.Clone(lddwBytes)
	spoiled[8] = 1
	checkDecodeRefuses(t, slices.Concat(exitBytes, spoiled), 1, api.ErrCodeField)
	checkDecodeRefuses(t, unhex("95 01 00 00 00 00 00 00"), 0, api.ErrCodeInsn)
	checkDecodeRefuses(t, make([]byte, 8), 0, api.ErrCodeInsn)
	spoiled = slices.Concat(ldmapBytes[:12], make([]byte, 4))
	checkDecodeRefuses(t, spoiled, 0, api.ErrCodeInsn)
	spoiled = slices.Clone(lddwBytes)
	spoiled[1] = 0x23
	checkDecodeRefuses(t, spoiled, 0, api.ErrCodeInsn)
}

func TestSlots(t *testing.T) {
	for _, c := range []struct {
		is   []api.Insn
		want int
	}{
		{nil, 0},
		{[]api.Insn{}, 0},
		{[]api.Insn{exit}, 1},
		{[]api.Insn{lddw}, 2},
		{[]api.Insn{ldmap}, 2},
		{[]api.Insn{exit, lddw, exit}, 4},
		{[]api.Insn{lddw, ldmap, lddw}, 6},
		{[]api.Insn{exit, mov, ldxdw}, 3},
		{[]api.Insn{nothing, in(-1, 0, 0, 0, 0), in(256, 99, -5, 1<<20, 1<<40)}, 3},
		{[]api.Insn{in(0x18, 99, -5, 1<<20, 7), in(0x18, 0, 2, 0, 0), in(0x118, 0, 0, 0, 0)}, 5},
	} {
		if got := Slots(c.is); got != c.want {
			t.Errorf("P3.1: Slots(%+v) = %d, want %d", c.is, got, c.want)
		}
	}
}

func TestSlotsOfBytes(t *testing.T) {
	good, _ := samples()
	b, _, e := Encode(good)
	if e != api.OK || len(b) != 8*Slots(good) {
		t.Errorf("P3.1: Slots is %d of instructions with %d bytes (%d)", Slots(good), len(b), e)
	}
}

func TestEncodeOfNone(t *testing.T) {
	checkEncode(t, "nil", nil, nil)
	checkEncode(t, "empty", []api.Insn{}, nil)
}

// TestEachInsn: every opcode, with each field at the edges of its bounds.
func TestEachInsn(t *testing.T) {
	good, bad := samples()
	seen := map[int]bool{}
	for _, i := range good {
		seen[i.Op] = true
		b := bytesOf(i)
		checkEncode(t, "each", []api.Insn{i}, b)
		if is, at, e := Decode(b); !slices.Equal(is, []api.Insn{i}) || at != 0 || e != api.OK {
			t.Errorf("P3.3, P3.4: Decode(% x) = %+v, %d, %d, want %+v", b, is, at, e, i)
		}
		if t.Failed() {
			t.FailNow()
		}
	}
	if len(seen) != 119 {
		t.Errorf("%d opcodes are tried, want 119", len(seen))
	}
	for _, i := range bad {
		checkEncodeRefuses(t, []api.Insn{i}, 0, isa.May(i))
	}
}

func TestWideWithEachSource(t *testing.T) {
	for src := -1; src <= 16; src++ {
		for _, imm := range someImms {
			i := in(0x18, 10, src, 0, imm)
			if isa.May(i) == api.OK {
				checkEncode(t, "wide", []api.Insn{i, exit}, append(bytesOf(i), bytesOf(exit)...))
			} else {
				checkEncodeRefuses(t, []api.Insn{exit, i}, 1, api.ErrIsaField)
			}
			if 0 <= src && src < 16 {
				checkDecode(t, append(bytesOf(exit), bytesOf(i)...))
			}
		}
	}
}

func TestEncodeTellsTheFirstRefused(t *testing.T) {
	list := []api.Insn{exit, lddw, mov, ldmap, ldxdw, lddw, exit}
	for k := range list {
		field, opcode := slices.Clone(list), slices.Clone(list)
		field[k].Dst = 11
		opcode[k].Op = 0x8d
		checkEncodeRefuses(t, field, k, api.ErrIsaField)
		checkEncodeRefuses(t, opcode, k, api.ErrIsaOpcode)
		for later := k + 1; later < len(list); later++ {
			two := slices.Clone(field)
			two[later] = nothing
			checkEncodeRefuses(t, two, k, api.ErrIsaField)
			two = slices.Clone(opcode)
			two[later].Src = -1
			checkEncodeRefuses(t, two, k, api.ErrIsaOpcode)
		}
	}
}

func TestDecodeOfCutBytes(t *testing.T) {
	starts := []int{0, 1, 3, 4, 6, 7}
	b := bytesOf(exit, lddw, mov, ldmap, ldxdw, exit)
	for n := range len(b) {
		start, whole := 0, false
		for _, s := range starts {
			if 8*s <= n {
				start, whole = s, 8*s == n
			}
		}
		if whole {
			checkDecode(t, b[:n])
			if is, _, e := Decode(b[:n]); e != api.OK || len(is) != slices.Index(starts, start) {
				t.Errorf("P3.3: Decode of %d bytes: %d instructions, %d", n, len(is), e)
			}
			continue
		}
		checkDecodeRefuses(t, b[:n], start, api.ErrCodeCut)
		// Bytes that lie behind the cut are not looked at.
		checkDecodeRefuses(t, b[:n:n], start, api.ErrCodeCut)
	}
}

// TestCutComesFirst: a slot that is cut and wrong in other ways is told as cut.
func TestCutComesFirst(t *testing.T) {
	for n := 1; n < 8; n++ {
		checkDecodeRefuses(t, make([]byte, n), 0, api.ErrCodeCut)
		checkDecodeRefuses(t, bytes.Repeat([]byte{0xff}, n), 0, api.ErrCodeCut)
	}
	wrong := slices.Concat(slot(0x18, 11, 2, 5, 0), slot(1, 1, 1, 1, 0))
	for n := 1; n < 16; n++ {
		checkDecodeRefuses(t, wrong[:n], 0, api.ErrCodeCut)
	}
	checkDecodeRefuses(t, wrong, 0, api.ErrCodeField)
	clear(wrong[8:12])
	checkDecodeRefuses(t, wrong, 0, api.ErrCodeInsn)
}

func TestSecondSlot(t *testing.T) {
	for _, first := range []api.Insn{lddw, ldmap, in(0x18, 3, 2, 0, 0), in(0x18, 11, 0, 0, 0), in(0x18, 0, 0, 1, 0)} {
		for at := 8; at < 12; at++ {
			for n := 1; n < 256; n++ {
				b := bytesOf(first)
				b[at] = byte(n)
				checkDecodeRefuses(t, b, 0, api.ErrCodeField)
				checkDecodeRefuses(t, slices.Concat(bytesOf(lddw, exit), b, make([]byte, 3)), 3, api.ErrCodeField)
			}
		}
	}
}

func TestDecodeTellsTheFirstRefused(t *testing.T) {
	cut := []byte{0x18}
	field := slices.Concat(slot(0x18, 1, 0, 0, 0), slot(0, 0, 0, 1, 0))
	insn := slot(0x95, 0, 0, 0, 1)
	front := bytesOf(lddw, ldmap, mov)
	checkDecodeRefuses(t, slices.Concat(front, field, insn, cut), 5, api.ErrCodeField)
	checkDecodeRefuses(t, slices.Concat(front, insn, field, cut), 5, api.ErrCodeInsn)
	checkDecodeRefuses(t, slices.Concat(front, cut), 5, api.ErrCodeCut)
	checkDecodeRefuses(t, slices.Concat(insn, front), 0, api.ErrCodeInsn)
	checkDecodeRefuses(t, slices.Concat(front, make([]byte, 8), front), 5, api.ErrCodeInsn)
}

// TestEachByteOfASlot: each byte of an instruction with each number.
func TestEachByteOfASlot(t *testing.T) {
	good, _ := samples()
	list := append(every(4000, good), exit, mov, ldxdw, lddw, ldmap, in(0xdb, 1, 2, -1, 0xf1), in(0xd4, 1, 0, 0, 16), in(0x85, 0, 1, 0, -1))
	for _, i := range list {
		b := bytesOf(i)
		for at := range b {
			for n := range 256 {
				spoiled := slices.Clone(b)
				spoiled[at] = byte(n)
				checkDecode(t, spoiled)
				checkDecode(t, slices.Concat(bytesOf(lddw), spoiled, bytesOf(exit)))
			}
		}
	}
}

// TestOneBehindTheOther: lists of many instructions, and two of them.
func TestOneBehindTheOther(t *testing.T) {
	good, _ := samples()
	chance := rand.New(rand.NewSource(3))
	for range 2000 {
		list := make([]api.Insn, chance.Intn(40))
		for k := range list {
			list[k] = good[chance.Intn(len(good))]
		}
		cut := chance.Intn(len(list) + 1)
		whole, _, e1 := Encode(list)
		front, _, e2 := Encode(list[:cut])
		back, _, e3 := Encode(list[cut:])
		if e1 != api.OK || e2 != api.OK || e3 != api.OK || !bytes.Equal(whole, slices.Concat(front, back)) {
			t.Fatalf("P3.4: Encode(%+v) is not that of the first %d and that of the others", list, cut)
		}
		if is, at, e := Decode(whole); !slices.Equal(is, list) || at != 0 || e != api.OK {
			t.Fatalf("P3.4: Decode(Encode(%+v)) = %+v, %d, %d", list, is, at, e)
		}
		if len(whole) > 0 {
			whole[chance.Intn(len(whole))] ^= 1 << chance.Intn(8)
			checkDecode(t, whole)
		}
	}
}

// TestAnyBytes: byte strings that look like code here and there.
func TestAnyBytes(t *testing.T) {
	chance := rand.New(rand.NewSource(4))
	few := []byte{0, 0, 0, 0, 0x18, 0x95, 0x10, 0x11, 0x01, 0xff, 0x07}
	for range 20000 {
		b := make([]byte, chance.Intn(40))
		for k := range b {
			b[k] = few[chance.Intn(len(few))]
		}
		checkDecode(t, b)
	}
}

func FuzzDecode(f *testing.F) {
	f.Add([]byte{})
	f.Add(bytesOf(exit, lddw, ldmap, mov, ldxdw))
	f.Fuzz(func(t *testing.T, b []byte) { checkDecode(t, b) })
}

func TestArgumentsStay(t *testing.T) {
	list := []api.Insn{exit, lddw, ldmap, mov, nothing}
	for n := range len(list) + 1 {
		handed := slices.Clone(list)
		Slots(handed[:n])
		Encode(handed[:n])
		if !slices.Equal(handed, list) {
			t.Errorf("R4: the list is %+v behind Encode, was %+v", handed, list)
		}
	}
	b := bytesOf(list...)
	for n := range len(b) + 1 {
		handed := slices.Clone(b)
		Decode(handed[:n])
		if !bytes.Equal(handed, b) {
			t.Errorf("R4: the bytes are % x behind Decode, were % x", handed, b)
		}
	}
}

func TestAnswersAreNewMemory(t *testing.T) {
	list := []api.Insn{exit, lddw, ldmap, mov}
	want := bytesOf(list...)
	first, _, _ := Encode(list)
	second, _, _ := Encode(list)
	spoil(first, 0xee)
	third, _, _ := Encode(list)
	if !bytes.Equal(second, want) || !bytes.Equal(third, want) {
		t.Errorf("R4: Encode gives % x and then % x: an answer shares memory", second, third)
	}

	b := slices.Clone(want)
	one, _, _ := Decode(b)
	two, _, _ := Decode(b)
	spoil(one, nothing)
	three, _, _ := Decode(b)
	spoil(b, 0xee)
	if !slices.Equal(two, list) || !slices.Equal(three, list) {
		t.Errorf("R4: Decode gives %+v and then %+v: an answer shares memory", two, three)
	}
}

// spoil writes into a list and its spare room.
func spoil[E any](list []E, with E) {
	whole := list[:cap(list)]
	for k := range whole {
		whole[k] = with
	}
}

// TestManyInsns: as many slots as an image may have, and then an error at the very end.
func TestManyInsns(t *testing.T) {
	list := make([]api.Insn, 0, api.MaxImage)
	for range api.MaxImage / 4 {
		list = append(list, mov, lddw, exit)
	}
	b, _, e := Encode(list)
	if e != api.OK || len(b) != 8*api.MaxImage || Slots(list) != api.MaxImage {
		t.Fatalf("P3.2: %d bytes, %d slots, %d", len(b), Slots(list), e)
	}
	if is, at, e := Decode(b); !slices.Equal(is, list) || at != 0 || e != api.OK {
		t.Errorf("P3.4: Decode: %d instructions, %d, %d", len(is), at, e)
	}
	b[len(b)-1] = 1
	checkDecodeAtEnd(t, b, api.MaxImage-1, api.ErrCodeInsn)
	checkDecodeAtEnd(t, b[:len(b)-1], api.MaxImage-1, api.ErrCodeCut)
	list[len(list)-1].Imm = 1
	if b, at, e := Encode(list); len(b) != 0 || at != len(list)-1 || e != api.ErrIsaField {
		t.Errorf("P3.2: %d bytes, %d, %d, want none, %d, ErrIsaField", len(b), at, e, len(list)-1)
	}
}

func checkDecodeAtEnd(t *testing.T, b []byte, wantAt int, want api.Errno) {
	t.Helper()
	if is, at, e := Decode(b); len(is) != 0 || at != wantAt || e != want {
		t.Errorf("P3.3: %d instructions, %d, %d, want none, %d, %d", len(is), at, e, wantAt, want)
	}
}
