package trace

import (
	"bytes"
	"fmt"
	"testing"

	"spindle/api"
)

// oneFunction gives an image of one function.
func oneFunction(text ...api.Insn) api.Image {
	return api.Image{Text: text, Funcs: []api.ImgFunc{{Name: "m", Count: len(text)}}}
}

// longText gives an image of as many slots as one may have, of jumps that lead forth and back over the whole, so that no two steps stand near each other.
func longText() api.Image {
	const n = api.MaxImage
	text := make([]api.Insn, n)
	for k := range n / 2 {
		text[k] = api.Insn{Op: 0x06, Imm: n - 2 - 2*k}
		text[n-1-k] = api.Insn{Op: 0x06, Imm: 2*k + 1 - n}
	}
	text[n/2] = api.Insn{Op: 0x95}
	return oneFunction(text...)
}

// TestLongText: a million steps through a million slots, each a piece of its own, with a breakpoint at every third slot; now and then the run is kept and read again.
func TestLongText(t *testing.T) {
	t.Parallel()
	im := longText()
	r := made(t, im, api.Job{Fuel: api.MaxFuel})
	for k := range api.MaxImage {
		if k%3 == 0 && r.Break(0, k) != api.OK {
			t.Fatalf("P25.3: no breakpoint at %d", k)
		}
	}
	steps := 0
	for calls := 1; ; calls++ {
		k, o, over, _ := r.Run(1 + calls%2)
		steps += k
		if over {
			if o.Kind != api.Returned || o.Fuel != 0 || steps != api.MaxFuel {
				t.Errorf("P25.8: %d steps, kind %d, %d left", steps, o.Kind, o.Fuel)
			}
			break
		}
		if calls%100000 == 0 {
			at := standsAt(t, r)
			r = again(t, im, kept(t, r))
			if now := standsAt(t, r); now != at {
				t.Fatalf("P25.8: it stood at %v, and stands at %v", at, now)
			}
			wantBreak(t, r, 0, at.At, api.OK)
		}
	}
	b := kept(t, r)
	if len(b) != 8+28+8*api.MaxImage+16+3+1+19+4+4+16 {
		t.Errorf("P25.6: %d bytes", len(b))
	}
	check(t, "a long text", im, b)
	b[8+28+8*api.MaxImage-1]++
	check(t, "another text", im, b)
}

// TestManyFunctions: frames and ends far behind.
func TestManyFunctions(t *testing.T) {
	t.Parallel()
	im := api.Image{Entry: 4000}
	for k := range api.MaxImgFuncs {
		callee := (k*2 + 1) % api.MaxImgFuncs
		im.Funcs = append(im.Funcs, api.ImgFunc{Name: fmt.Sprintf("f%d", k/64), Object: k % 64, First: 3 * k, Count: 3})
		im.Text = append(im.Text, api.Insn{Op: 0x18, Dst: 7, Imm: k}, api.Insn{Op: 0x85, Src: 1, Imm: callee}, api.Insn{Op: 0x95})
	}
	r := made(t, im, api.Job{Fuel: 100})
	for steps := 0; ; steps++ {
		check(t, fmt.Sprint("many functions, behind ", steps), im, kept(t, r))
		if k, o, over, _ := r.Run(1); over {
			if o.Code != api.FaultDeep || k != 1 || steps != 15 {
				t.Errorf("P25.2: %+v behind %d steps", o, steps)
			}
			break
		}
	}
	check(t, "many functions, behind the end", im, kept(t, r))
}

// manyTables gives an image of as many tables as one may have, and a text that updates one of them without an end.
func manyTables() api.Image {
	im := oneFunction(
		api.Insn{Op: 0x7b, Dst: 10, Src: 6, Off: -8},
		api.Insn{Op: 0x18, Dst: 1, Src: 1, Imm: 1000},
		api.Insn{Op: 0xbf, Dst: 2, Src: 10},
		api.Insn{Op: 0x07, Dst: 2, Imm: -8},
		api.Insn{Op: 0xbf, Dst: 3, Src: 2},
		api.Insn{Op: 0xb7, Dst: 4},
		api.Insn{Op: 0x85, Imm: 2},
		api.Insn{Op: 0x07, Dst: 6, Imm: 1},
		api.Insn{Op: 0x05, Off: -10},
	)
	for k := range api.MaxTables {
		d := api.TableDef{Name: fmt.Sprintf("t%04d", k), Kind: api.TableHash, Key: 8, Value: 8, Entries: 100}
		if k == 1000 {
			d.Entries = api.MaxEntries
		}
		im.Tables = append(im.Tables, d)
	}
	return im
}

// TestManyEntries: entries come into one of 1024 tables until it is full, in pieces that are kept and read again.
func TestManyEntries(t *testing.T) {
	t.Parallel()
	im := manyTables()
	r := made(t, im, api.Job{Fuel: api.MaxFuel, Draws: make([]uint64, api.MaxDraws), Context: make([]byte, api.MaxContext)})
	bare := len(kept(t, r))
	for over := false; !over; {
		_, _, over, _ = r.Run(200000)
		r = again(t, im, kept(t, r))
	}
	b := kept(t, r)
	// Behind the end there is no frame.
	if want := bare - 4 - plainFrame + 19 + 12*api.MaxEntries; len(b) != want {
		t.Errorf("P25.6: %d bytes, want %d", len(b), want)
	}
	_, o, over, _ := r.Run(0)
	if !over || o.Kind != api.OutOfFuel || len(o.Tables) != api.MaxTables || len(o.Tables[1000].Entries) != api.MaxEntries {
		t.Fatalf("P25.2: kind %d, %d tables", o.Kind, len(o.Tables))
	}
	last := o.Tables[1000].Entries[api.MaxEntries-1]
	if want := []byte{0xff, 0xff, 0, 0, 0, 0, 0, 0}; !bytes.Equal(last.Key, want) || !bytes.Equal(last.Value, want) || last.Place != 65535 {
		t.Errorf("P25.2: the last entry: %v", last)
	}
	// The last of the great table's keys is made the first one, at which the second reading would look for hours.
	behind := 16 + 8*api.MaxDraws + 4 + 23*4
	key := len(b) - behind - 8
	copy(b[key:], make([]byte, 8))
	if r, at, e := Read(im, b); r != nil || at != key || e != api.ErrTraceForm {
		t.Errorf("P25.7: a key twice, far behind: Read = %v, %d, %d, want %d, %d", r != nil, at, e, key, api.ErrTraceForm)
	}
}

// TestMuchRoom: tables of as many bytes as an image may have.
func TestMuchRoom(t *testing.T) {
	t.Parallel()
	im := oneFunction(api.Insn{Op: 0x18, Dst: 1, Src: 1, Imm: 3}, api.Insn{Op: 0x72, Dst: 1, Off: 4095, Imm: 9}, api.Insn{Op: 0x95})
	for k := range 4 {
		im.Tables = append(im.Tables, api.TableDef{Name: fmt.Sprintf("t%d", k), Kind: api.TableHash, Key: 24, Value: 4064, Entries: 4096})
	}
	r := made(t, im, api.Job{Fuel: 9})
	b := kept(t, r)
	b[len(b)-16-4-4*4-1] = 5
	r = again(t, im, b)
	clear(b)
	for range 3 {
		r.Run(1)
		r = again(t, im, kept(t, r))
	}
	_, o, over, _ := r.Run(0)
	if !over || o.Kind != api.Returned || o.Fuel != 6 {
		t.Errorf("P25.8: kind %d, %d left", o.Kind, o.Fuel)
	}
	if b, e := r.Peek(19<<32+4096*4064-2, 2); !bytes.Equal(b, []byte{0, 5}) || e != api.OK {
		t.Errorf("P25.5: the last bytes of a great table: %v, %d", b, e)
	}
	if b, e := r.Peek(19<<32+4095, 1); !bytes.Equal(b, []byte{9}) || e != api.OK {
		t.Errorf("P25.5: a byte that was stored: %v, %d", b, e)
	}
}

// TestManyPieces: a run that is kept and read again behind each of many steps is as fast as its bytes are few.
func TestManyPieces(t *testing.T) {
	t.Parallel()
	im := linked(t, loopText)
	im.Text[0].Imm = 10000
	r := made(t, im, api.Job{Fuel: api.MaxFuel})
	for steps := 0; ; steps++ {
		k, o, over, _ := r.Run(1)
		r = again(t, im, kept(t, r))
		if over {
			if k != 1 || o.Kind != api.Returned || steps != 20001 {
				t.Errorf("P25.8: kind %d behind %d steps", o.Kind, steps)
			}
			return
		}
	}
}
