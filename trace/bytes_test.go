package trace

import (
	"bytes"
	"math/rand"
	"slices"
	"strconv"
	"testing"

	"spindle/api"
	"spindle/machine"
)

// keptText gives an image of three functions with two hash tables and an array among them; f calls itself, and r6 to r9 stand in its frames.
const keptText = ".map h1 hash 2 3 3|.map h2 hash 1 9 2|.map a array 4 5 2|" + entryText + "mov r6, 5|mov r7, 6|call f|exit|.func f|call 3|call g|call f|exit|.func g|call f|lddw r0, 5|exit"

// within gives a state of that image in the midst of a run: m has called f, and that g.
func within(t *testing.T) (api.Image, api.Frozen) {
	t.Helper()
	im := linked(t, keptText)
	m, _, _ := machine.New(im, api.Job{Context: []byte{1, 2, 3}, Draws: []uint64{4, 1 << 63}, Fuel: 60, Contents: []api.Contents{
		{Table: "h1", Entries: []api.Entry{{Key: []byte("aa"), Value: []byte("abc")}, {Key: []byte("ab"), Value: []byte("def"), Place: 2}}},
		{Table: "h2", Entries: []api.Entry{{Key: []byte("x"), Value: []byte("123456789"), Place: 1}}},
	}})
	for range 5 {
		m.Step()
	}
	f, _ := m.Freeze()
	if len(f.Frames) != 3 || f.Frames[2].Func != 2 || f.Used != 1 {
		t.Fatalf("another state than was meant: %+v", f)
	}
	for k := range f.Tables {
		for n := range f.Tables[k].Data {
			f.Tables[k].Data[n] = byte(5*n + k)
		}
	}
	for d := range f.Frames {
		for n := range f.Frames[d].Bytes {
			f.Frames[d].Bytes[n] = byte(n + d)
		}
	}
	return im, f
}

// ended gives the same behind its end.
func ended(t *testing.T, o api.Outcome) (api.Image, api.Frozen) {
	t.Helper()
	im, f := within(t)
	f.Over, f.Frames, f.Outcome = true, nil, o
	if o.Kind == api.OutOfFuel {
		f.Fuel = 0
	}
	return im, f
}

// ends gives an outcome of each kind, as a frozen state tells them.
func ends() []api.Outcome {
	return []api.Outcome{{Kind: api.Returned, Word: 0x1122334455667788}, {Kind: api.Faulted, Code: api.FaultMemory, Func: "g", At: 3}, {Kind: api.OutOfFuel, Func: "f", At: 3}}
}

// states gives the bytes of runs of that image: one in the midst of it, and one behind each kind of end.
func states(t *testing.T) (api.Image, [][]byte) {
	im, f := within(t)
	all := [][]byte{plainBytes(t, im, f)}
	for _, o := range ends() {
		_, f := ended(t, o)
		all = append(all, plainBytes(t, im, f))
	}
	return im, all
}

// laid gives bytes and numbers of four bytes behind one another.
func laid(parts ...any) []byte {
	var b []byte
	for _, part := range parts {
		switch x := part.(type) {
		case string:
			b = append(b, x...)
		case []byte:
			b = append(b, x...)
		case int:
			b = put32(b, x)
		case uint64:
			b = put64(b, x)
		}
	}
	return b
}

// TestKeepExamples: P25.6, bytes put down by hand.
func TestKeepExamples(t *testing.T) {
	im := linked(t, loopText)
	front := imageBytes(t, im)
	zeros := make([]byte, 512)
	want := laid("TRC1", len(front), front, "\x00", 1, 0, 0, uint64(0), uint64(1<<32), make([]byte, 64), zeros, 0, 0, uint64(0), uint64(100))
	r := made(t, im, api.Job{Fuel: 100})
	if b := kept(t, r); !bytes.Equal(b, want) {
		t.Errorf("P25.6: at the beginning: %x, want %x", b, want)
	}
	r.Run(100)
	want = laid("TRC1", len(front), front, "\x01\x01", uint64(0), "\x00\x00", 0, 0, 0, 0, uint64(0), uint64(92))
	if b := kept(t, r); !bytes.Equal(b, want) {
		t.Errorf("P25.6: behind the end: %x, want %x", b, want)
	}

	text := ".map h hash 2 3 2|.map a array 4 1 2|.map b hash 1 8 1|.global m|.func z|stb [r10-1], 7|mov r9, 8|exit|.func m|mov r0, 3|mov r8, -1|lddw r6, 0x102030405060708|sth [r10-512], 0x203|call z|ldxb r0, [r0+0]"
	im = linked(t, text)
	front = imageBytes(t, im)
	r = made(t, im, api.Job{Context: []byte{9, 8}, Draws: []uint64{1<<64 - 2, 5}, Fuel: 1 << 20, Contents: []api.Contents{
		{Table: "h", Entries: []api.Entry{{Key: []byte("KL"), Value: []byte("abc"), Place: 1}}},
		{Table: "b", Entries: []api.Entry{{Key: []byte("k"), Value: []byte("12345678"), Place: 0}}},
	}})
	tail := laid(2, "\x09\x08",
		"\x00\x00\x00\x00\x00\x00\x00\x00\x00\x00\x00\x00\x00\x00\x00\x00", "12345678", "\x00\x00\x00\x00\x00\x00\x00\x00abc\x00\x00\x00\x00\x00",
		1, 0, "k", 1, 1, "KL", 2, uint64(1<<64-2), uint64(5), uint64(0))
	r.Run(7)
	caller := laid(1, 5, make([]byte, 48), uint64(0x102030405060708), uint64(0), uint64(1<<64-1), uint64(0), "\x03\x02", zeros[2:])
	alive := laid(0, 2, uint64(3), uint64(1<<32), uint64(2), make([]byte, 24), uint64(0x102030405060708), uint64(0), uint64(1<<64-1), uint64(8), zeros[1:], "\x07")
	want = laid("TRC1", len(front), front, "\x00", 2, caller, alive, tail, uint64(1<<20-7))
	if b := kept(t, r); !bytes.Equal(b, want) {
		t.Errorf("P25.6: within a function: %x, want %x", b, want)
	}
	check(t, "within a function", im, want)
	r.Run(100)
	want = laid("TRC1", len(front), front, "\x01\x02", uint64(0), "\xc8\x00", 1, 5, tail, uint64(1<<20-9))
	if b := kept(t, r); !bytes.Equal(b, want) {
		t.Errorf("P25.6: behind a fault: %x, want %x", b, want)
	}
	check(t, "behind a fault", im, want)
}

// TestRoom: the room that is set aside for a run is what it takes, and little more.
func TestRoom(t *testing.T) {
	im, within := within(t)
	many := within
	many.Entries = []api.Contents{{Table: "h1", Entries: slices.Repeat([]api.Entry{{Key: []byte("aa")}}, 1000)}, {Table: "h2"}}
	many.Draws = make([]uint64, 1000)
	all := []api.Frozen{within, many}
	for _, o := range ends() {
		_, f := ended(t, o)
		all = append(all, f)
	}
	for _, f := range all {
		room, size := roomOf(imageBytes(t, im), f), len(bytesOf(imageBytes(t, im), im.Funcs, f))
		if room < size || room > size+64 {
			t.Errorf("P25.6: room for %d bytes is set aside, want %d", room, size)
		}
	}
}

// TestReadExamples: those of the chapter for Read.
func TestReadExamples(t *testing.T) {
	im := linked(t, loopText)
	b := kept(t, made(t, im, api.Job{Fuel: 100}))
	for _, c := range []struct {
		what string
		b    []byte
		at   int
		e    api.Errno
	}{
		{"as it is", b, 0, api.OK},
		{"a byte more", append(bytes.Clone(b), 0), len(b), api.ErrTraceForm},
		{"a byte less", b[:len(b)-1], len(b) - 1, api.ErrTraceForm},
		{"nothing", nil, 0, api.ErrTraceForm},
		{"another beginning", append([]byte("t"), b[1:]...), 0, api.ErrTraceForm},
	} {
		if at, e := check(t, c.what, im, c.b); at != c.at || e != c.e {
			t.Errorf("P25.7: %s: Read = %d, %d, want %d, %d", c.what, at, e, c.at, c.e)
		}
	}
	if at, e := check(t, "another image", linked(t, entryText+"exit"), b); at != 8 || e != api.ErrTraceImage {
		t.Errorf("P25.7: another image: Read = %d, %d", at, e)
	}
}

// TestImage: the image's bytes, and how many they are.
func TestImage(t *testing.T) {
	im, all := states(t)
	front := len(imageBytes(t, im))
	for _, b := range all {
		for _, n := range []int{0, 1, front - 1, front + 1, front + 100, len(b) - 8} {
			changed := slices.Concat(b[:4], put32(nil, n), b[8:])
			if at, e := check(t, "another length", im, changed); at != 8 || e != api.ErrTraceImage {
				t.Errorf("P25.7: %d bytes in place of %d: Read = %d, %d", n, front, at, e)
			}
		}
		for _, n := range []int{len(b) - 7, 1 << 24, 1 << 31, 1<<32 - 1} {
			changed := slices.Concat(b[:4], put32(nil, n), b[8:])
			if at, e := check(t, "a length that is cut", im, changed); at != len(b) || e != api.ErrTraceForm {
				t.Errorf("P25.7: %d bytes in place of %d: Read = %d, %d", n, front, at, e)
			}
		}
		if at, e := check(t, "no image", im, laid("TRC1", 0)); at != 8 || e != api.ErrTraceImage {
			t.Errorf("P25.7: no image: Read = %d, %d", at, e)
		}
	}
	// The image's entry is a part of it.
	other := im
	other.Entry = 1
	if at, e := check(t, "another entry", other, all[0]); at != 8 || e != api.ErrTraceImage {
		t.Errorf("P25.7: another entry: Read = %d, %d", at, e)
	}
}

// TestCuts: each length, and tails.
func TestCuts(t *testing.T) {
	t.Parallel()
	im, all := states(t)
	for _, b := range all {
		for length := range len(b) {
			if at, e := check(t, "cut", im, b[:length]); at != length || e != api.ErrTraceForm {
				t.Fatalf("P25.7: the first %d of %d: Read = %d, %d", length, len(b), at, e)
			}
		}
		for _, tail := range []string{"\x00", "\xff", "TRC1", string(b), string(make([]byte, 9))} {
			if at, e := check(t, "a tail", im, append(bytes.Clone(b), tail...)); at != len(b) || e != api.ErrTraceForm {
				t.Errorf("P25.7: a tail of %d: Read = %d, %d", len(tail), at, e)
			}
		}
	}
}

// TestEveryByte: each byte as others; of the shorter fields as all, else as some.
func TestEveryByte(t *testing.T) {
	t.Parallel()
	im, all := states(t)
	for _, b := range all {
		_, fields, _, _ := plainRead(t, im, b)
		for _, f := range fields {
			for at := f.at; at < f.at+f.size; at++ {
				changed := bytes.Clone(b)
				for n := range 256 {
					if f.size > 4 && n > 1 && n != 0x10 && n != 0x80 && n != 0xff {
						continue
					}
					changed[at] = byte(n)
					check(t, "a byte at "+strconv.Itoa(at), im, changed)
				}
			}
		}
	}
}

// odd gives numbers that a field might have, in so many bytes: those near it, and those near bounds.
func odd(field []byte) [][]byte {
	var all [][]byte
	was := uint64(0)
	for k, b := range field {
		was |= uint64(b) << (8 * k)
	}
	for _, x := range []uint64{0, 1, 2, 3, 4, 5, 8, 9, 199, 200, 201, 219, 220, 226, 227, 456, 476, 0xff, 0xffff, 65536, 65537, 1 << 20, 1<<20 + 1, 1 << 31, 1<<32 - 1, 1 << 32, 1 << 63, 1<<64 - 1, was - 1, was + 1, was + 1<<8, was + 1<<16, was + 1<<24, was + 1<<32, was + 1<<56} {
		all = append(all, put64(nil, x)[:len(field)])
	}
	return all
}

// TestEveryField: each field with odd numbers, and each two of them: the first that is wrong decides.
func TestEveryField(t *testing.T) {
	t.Parallel()
	im, all := states(t)
	chance := rand.New(rand.NewSource(25))
	told := map[api.Errno]int{}
	places := map[int]int{}
	for _, b := range all {
		_, fields, _, _ := plainRead(t, im, b)
		var small []span
		for _, f := range fields {
			if f.size <= 8 {
				small = append(small, f)
			}
		}
		for _, f := range small {
			for _, x := range odd(b[f.at : f.at+f.size]) {
				changed := bytes.Clone(b)
				copy(changed[f.at:], x)
				at, e := check(t, "a field at "+strconv.Itoa(f.at), im, changed)
				told[e]++
				if e != api.OK {
					places[at]++
				}
				for range 4 {
					g := small[chance.Intn(len(small))]
					xs := odd(b[g.at : g.at+g.size])
					again := bytes.Clone(changed)
					copy(again[g.at:], xs[chance.Intn(len(xs))])
					check(t, "two fields", im, again)
				}
			}
		}
	}
	if told[api.OK] < 1000 || told[api.ErrTraceForm] < 1000 || len(places) < 60 {
		t.Errorf("P25.7: too few of each: %v, at %d places", told, len(places))
	}
}

// TestBytesOfChance: bytes of the three kinds of fields spoiled, moved, taken out and put in.
func TestBytesOfChance(t *testing.T) {
	t.Parallel()
	im, all := states(t)
	front := 8 + len(imageBytes(t, im))
	chance := rand.New(rand.NewSource(7))
	for range 60000 {
		b := bytes.Clone(all[chance.Intn(len(all))])
		for range 1 + chance.Intn(3) {
			at := front + chance.Intn(max(1, len(b)-front))
			if at >= len(b) {
				continue
			}
			switch chance.Intn(6) {
			case 0:
				b = slices.Delete(b, at, min(len(b), at+1+chance.Intn(12)))
			case 1:
				b = slices.Insert(b, at, make([]byte, 1+chance.Intn(8))...)
			case 2:
				b[at] = byte(chance.Intn(256))
			case 3:
				b[at] = byte(chance.Intn(4))
			case 4:
				b[at]++
			case 5:
				other := all[chance.Intn(len(all))]
				b = append(b[:at], other[min(at, len(other)):]...)
			}
		}
		check(t, "bytes of chance", im, b)
	}
}

// wantRead asks for Read's answer of a state that is written down.
func wantRead(t *testing.T, what string, im api.Image, f api.Frozen, wantAt int, wantE api.Errno) {
	t.Helper()
	if at, e := check(t, what, im, plainBytes(t, im, f)); at != wantAt || e != wantE {
		t.Errorf("P25.7: %s: Read = %d, %d, want %d, %d", what, at, e, wantAt, wantE)
	}
}

// The places of fields behind the image's bytes, of a run within.
const (
	framesAt   = 1
	firstAt    = framesAt + 4
	plainFrame = 4 + 4 + 80 + 512
)

// deeper gives so many frames, in which g has called f, which has called itself.
func deeper(fs []api.Frame, n int) []api.Frame {
	fs[2].At = 1
	clear(fs[2].Regs[:6])
	for d := 3; d < n; d++ {
		f := api.Frame{Func: 1, At: 3, Regs: make([]uint64, 11), Bytes: make([]byte, 512)}
		f.Regs[7], f.Regs[10] = uint64(d), 2<<32-512*uint64(d)
		fs = append(fs, f)
	}
	return fs
}

// TestFrames: what may be in the frames, with the place put down by hand.
func TestFrames(t *testing.T) {
	im, _ := within(t)
	front := 8 + len(imageBytes(t, im))
	second, third := front+firstAt+plainFrame, front+firstAt+2*plainFrame
	frame := func(k int, do func(f *api.Frame)) func(f *api.Frozen) {
		return func(f *api.Frozen) { do(&f.Frames[k]) }
	}
	for _, c := range []struct {
		what string
		do   func(f *api.Frozen)
		at   int // 0, where it may be
	}{
		{"nothing", func(f *api.Frozen) {}, 0},
		{"no frames", func(f *api.Frozen) { f.Frames = nil }, front + framesAt},
		{"a frame less", func(f *api.Frozen) { f.Frames = f.Frames[:2] }, 0},
		{"the entry's alone", func(f *api.Frozen) { f.Frames = f.Frames[:1] }, 0},
		{"the entry's gone", func(f *api.Frozen) { f.Frames = f.Frames[1:] }, front + firstAt},
		{"another entry", frame(0, func(f *api.Frame) { f.Func = 1 }), front + firstAt},
		{"another function", frame(2, func(f *api.Frame) { f.Func, f.At = 0, 0 }), third},
		{"a function of none", frame(2, func(f *api.Frame) { f.Func = 3 }), third},
		{"another function that is called", frame(1, func(f *api.Frame) { f.Func = 2 }), second},
		{"the alive place 0", frame(2, func(f *api.Frame) { f.At = 0 }), 0},
		{"the alive place behind the last", frame(2, func(f *api.Frame) { f.At = 3 }), 0},
		{"the alive place farther", frame(2, func(f *api.Frame) { f.At = 4 }), third + 4},
		{"a caller at 0", frame(1, func(f *api.Frame) { f.At = 0 }), second + 4},
		{"a caller behind the call of a helper", frame(1, func(f *api.Frame) { f.At = 1 }), second + 4},
		{"a caller behind another call", frame(1, func(f *api.Frame) { f.At = 3 }), third},
		{"a caller behind the last", frame(1, func(f *api.Frame) { f.At = 4 }), second + 4},
		{"a caller farther", frame(1, func(f *api.Frame) { f.At = 5 }), second + 4},
		{"a caller far away", frame(0, func(f *api.Frame) { f.At = 1<<32 - 1 }), front + firstAt + 4},
		{"other registers", frame(2, func(f *api.Frame) { copy(f.Regs, []uint64{9, 8, 7, 6, 5, 4, 3, 2, 1, 1<<64 - 1}) }), 0},
		{"r0 of a caller", frame(1, func(f *api.Frame) { f.Regs[0] = 1 << 63 }), second + 8},
		{"r5 of a caller", frame(0, func(f *api.Frame) { f.Regs[5] = 1 }), front + firstAt + 8 + 40},
		{"r6 to r9 of a caller", frame(0, func(f *api.Frame) { copy(f.Regs[6:], []uint64{6, 7, 8, 9}) }), 0},
		{"eight frames", func(f *api.Frozen) { f.Frames = deeper(f.Frames, 8) }, 0},
		{"nine frames", func(f *api.Frozen) { f.Frames = deeper(f.Frames, 9) }, front + framesAt},
	} {
		_, f := within(t)
		c.do(&f)
		e := api.ErrTraceForm
		if c.at == 0 {
			e = api.OK
		}
		wantRead(t, c.what, im, f, c.at, e)
	}
}

// TestCallsThatMayNotBe: what stands ahead of a caller's place in images that need not verify.
func TestCallsThatMayNotBe(t *testing.T) {
	for _, c := range []struct {
		call   api.Insn
		callee int
		at     int // in the bytes behind the image's; 0, where it may be
	}{
		{api.Insn{Op: 0x85, Src: 1, Imm: 1}, 1, 0},
		{api.Insn{Op: 0x85, Src: 1, Imm: 0}, 0, 0},
		{api.Insn{Op: 0x85, Src: 1, Imm: 0}, 1, firstAt + plainFrame},
		{api.Insn{Op: 0x85, Src: 1, Imm: 2}, 2, firstAt + plainFrame},
		{api.Insn{Op: 0x85, Src: 1, Imm: 1<<31 - 1}, 1<<31 - 1, firstAt + plainFrame},
		{api.Insn{Op: 0x85, Src: 1, Imm: -1}, 1<<32 - 1, firstAt + plainFrame},
		{api.Insn{Op: 0x85, Src: 1, Imm: -1}, -1, firstAt + plainFrame},
		{api.Insn{Op: 0x85, Src: 1, Imm: -1 << 31}, 1 << 31, firstAt + plainFrame},
		{api.Insn{Op: 0x85, Src: 1, Imm: -1}, 0, firstAt + plainFrame},
		{api.Insn{Op: 0x85, Src: 0, Imm: 1}, 1, firstAt + 4},
		{api.Insn{Op: 0x85, Src: 2, Imm: 1}, 1, firstAt + 4},
		{api.Insn{Op: 0x85, Src: 1, Dst: 1, Imm: 1}, 1, firstAt + 4},
		{api.Insn{Op: 0x85, Src: 1, Off: 1, Imm: 1}, 1, firstAt + 4},
		{api.Insn{Op: 0x8d, Src: 1, Imm: 1}, 1, firstAt + 4},
		{api.Insn{Op: 0x95, Src: 1, Imm: 1}, 1, firstAt + 4},
		{api.Insn{Op: 0x18, Src: 1, Imm: 1}, 1, firstAt + 4},
		{api.Insn{Op: 0xff, Src: 1, Imm: 1}, 1, firstAt + 4},
		{api.Insn{Op: 0x05, Imm: 0}, 1, firstAt + 4},
	} {
		im := api.Image{
			Text:  []api.Insn{{Op: 0x85, Imm: 3}, c.call, {Op: 0x95}, {Op: 0x95}},
			Funcs: []api.ImgFunc{{Name: "m", Count: 3}, {Name: "f", First: 3, Count: 1}},
		}
		m, _, _ := machine.New(im, api.Job{Fuel: 9})
		f, _ := m.Freeze()
		caller := api.Frame{Func: 0, At: 2, Regs: make([]uint64, 11), Bytes: make([]byte, 512)}
		alive := f.Frames[0]
		alive.Func = c.callee
		f.Frames = []api.Frame{caller, alive}
		if c.at == 0 {
			wantRead(t, "a call", im, f, 0, api.OK)
		} else {
			wantRead(t, "a call", im, f, 8+len(imageBytes(t, im))+c.at, api.ErrTraceForm)
		}
	}
}

// TestEnds: what may be of a run that is over, with the place put down by hand.
func TestEnds(t *testing.T) {
	im, _ := within(t)
	kind := 8 + len(imageBytes(t, im)) + 1
	word, code, function, at := kind+1, kind+9, kind+11, kind+15
	behind := len(plainBytes(t, im, func() api.Frozen { _, f := ended(t, ends()[0]); return f }()))
	for n, o := range ends() {
		for _, c := range []struct {
			what  string
			place int
			bytes []byte
			wrong [3]bool // of Returned, Faulted, OutOfFuel
		}{
			{"no kind", kind, []byte{0}, [3]bool{true, true, true}},
			{"a kind of none", kind, []byte{4}, [3]bool{true, true, true}},
			{"a great kind", kind, []byte{255}, [3]bool{true, true, true}},
			{"a word", word, put64(nil, 1), [3]bool{false, true, true}},
			{"a great word", word, put64(nil, 1<<63), [3]bool{false, true, true}},
			{"the code 0", code, []byte{0, 0}, [3]bool{false, true, false}},
			{"the code 200", code, []byte{200, 0}, [3]bool{true, false, true}},
			{"the code 201", code, []byte{201, 0}, [3]bool{true, true, true}},
			{"the code 219", code, []byte{219, 0}, [3]bool{true, true, true}},
			{"the code 220", code, []byte{220, 0}, [3]bool{true, false, true}},
			{"the code 226", code, []byte{226, 0}, [3]bool{true, false, true}},
			{"the code 227", code, []byte{227, 0}, [3]bool{true, true, true}},
			{"the code 456", code, []byte{200, 1}, [3]bool{true, true, true}},
			{"function 0", function, put32(nil, 0), [3]bool{false, false, false}},
			{"function 2", function, put32(nil, 2), [3]bool{true, false, false}},
			{"function 3", function, put32(nil, 3), [3]bool{true, true, true}},
			{"function 2^32 - 1", function, put32(nil, -1), [3]bool{true, true, true}},
			{"the place 0", at, put32(nil, 0), [3]bool{false, false, false}},
			{"the place 1", at, put32(nil, 1), [3]bool{true, false, false}},
			{"the place 4", at, put32(nil, 4), [3]bool{true, true, false}},
			{"the place 5", at, put32(nil, 5), [3]bool{true, true, true}},
			{"the place 2^32 - 1", at, put32(nil, -1), [3]bool{true, true, true}},
			{"no fuel", behind - 8, put64(nil, 0), [3]bool{false, false, false}},
			{"fuel", behind - 8, put64(nil, 1), [3]bool{false, false, true}},
			{"the most fuel", behind - 8, put64(nil, 1<<20), [3]bool{false, false, true}},
			{"too much fuel", behind - 8, put64(nil, 1<<20+1), [3]bool{true, true, true}},
			{"the most used", behind - 16, put64(nil, 1<<20), [3]bool{false, false, false}},
			{"too many used", behind - 16, put64(nil, 1<<20+1), [3]bool{true, true, true}},
			{"far too many used", behind - 16, put64(nil, 1<<63), [3]bool{true, true, true}},
		} {
			_, f := ended(t, o)
			b := plainBytes(t, im, f)
			copy(b[c.place:], c.bytes)
			wantAt, wantE := 0, api.OK
			if c.wrong[n] {
				wantAt, wantE = c.place, api.ErrTraceForm
			}
			if at, e := check(t, c.what, im, b); at != wantAt || e != wantE {
				t.Errorf("P25.7: the kind %d, %s: Read = %d, %d, want %d, %d", o.Kind, c.what, at, e, wantAt, wantE)
			}
		}
	}
}

// TestLists: the context, the tables' entries and the draws, of a run that is over or not.
func TestLists(t *testing.T) {
	im, _ := within(t)
	es := func(f *api.Frozen) []api.Entry { return f.Entries[0].Entries }
	key := func(s string, place int) api.Entry { return api.Entry{Key: []byte(s), Place: place} }
	for _, c := range []struct {
		what string
		do   func(f *api.Frozen)
		back int // how many bytes ahead of the end the fault stands; 0, where it may be
	}{
		{"no context", func(f *api.Frozen) { f.Context = nil }, 0},
		{"the longest context", func(f *api.Frozen) { f.Context = make([]byte, 65536) }, 0},
		{"a context that is too long", func(f *api.Frozen) { f.Context = make([]byte, 65537) }, contextBack + 65537 - 3},
		{"no draws", func(f *api.Frozen) { f.Draws = nil }, 0},
		{"the most draws", func(f *api.Frozen) { f.Draws = make([]uint64, 65536) }, 0},
		{"too many draws", func(f *api.Frozen) { f.Draws = make([]uint64, 65537) }, 16 + 8*65537 + 4},
		{"no entries", func(f *api.Frozen) { f.Entries[0].Entries = nil }, 0},
		{"a full table", func(f *api.Frozen) {
			f.Entries[0].Entries = []api.Entry{key("b\x00", 0), key("\xff\xff", 1), key("\x00b", 2)}
		}, 0},
		{"too many entries", func(f *api.Frozen) {
			f.Entries[0].Entries = []api.Entry{key("aa", 0), key("ab", 1), key("ac", 2), key("ad", 2)}
		}, hashBack + 12},
		{"a place that is too great", func(f *api.Frozen) { es(f)[1].Place = 3 }, hashBack - 10},
		{"a first place that is too great", func(f *api.Frozen) { es(f)[0].Place = 1<<32 - 1 }, hashBack - 4},
		{"places that fall", func(f *api.Frozen) { es(f)[0].Place, es(f)[1].Place = 2, 0 }, hashBack - 10},
		{"a place twice", func(f *api.Frozen) { es(f)[0].Place = 2 }, hashBack - 10},
		{"other places", func(f *api.Frozen) { es(f)[0].Place, es(f)[1].Place = 1, 2 }, 0},
		{"a key twice", func(f *api.Frozen) { es(f)[1].Key = []byte("aa") }, hashBack - 14},
		{"a key of another table", func(f *api.Frozen) { f.Entries[1].Entries[0].Key = []byte("a") }, 0},
		{"a place twice, and a key", func(f *api.Frozen) { es(f)[1] = es(f)[0] }, hashBack - 10},
		{"a place of the other table", func(f *api.Frozen) { f.Entries[1].Entries[0].Place = 2 }, 0 + 16 + 16 + 4 + 1 + 4},
		{"more entries in the other table", func(f *api.Frozen) {
			f.Entries[1].Entries = []api.Entry{key("a", 0), key("b", 1), key("c", 2)}
		}, 16 + 16 + 4 + 15 + 4},
		{"most used", func(f *api.Frozen) { f.Used = 1 << 20 }, 0},
		{"too many used", func(f *api.Frozen) { f.Used = 1<<20 + 1 }, 16},
		{"too much fuel", func(f *api.Frozen) { f.Fuel = 1<<20 + 1 }, 8},
		{"used and fuel", func(f *api.Frozen) { f.Used, f.Fuel = 1<<62, 1<<62 }, 16},
	} {
		for n := -1; n < 2; n++ {
			_, f := within(t)
			if n >= 0 {
				_, f = ended(t, ends()[n])
			}
			c.do(&f)
			if b := plainBytes(t, im, f); c.back == 0 {
				wantRead(t, c.what, im, f, 0, api.OK)
			} else {
				wantRead(t, c.what, im, f, len(b)-c.back, api.ErrTraceForm)
			}
		}
	}
}

// How far ahead of the end of a state's bytes stand, as within and ended make it: the number of entries of the first hash, and the number of the context's bytes.
const (
	hashBack    = 4 + 2*6 + 4 + 5 + 4 + 2*8 + 16
	contextBack = 4 + 3 + 2*8 + 3*8 + 2*16 + hashBack
)

// TestUsedBeyond: P25.8, of bytes whose Used and Fuel together are above MaxFuel Used can come above it.
func TestUsedBeyond(t *testing.T) {
	im := linked(t, entryText+"x: call 3|ja x")
	m, _, _ := machine.New(im, api.Job{Fuel: 9})
	f, _ := m.Freeze()
	f.Used = api.MaxFuel - 1
	r := again(t, im, plainBytes(t, im, f))
	wantRun(t, "one draw", r, 1, 1, nothing(), false)
	b := kept(t, r)
	if at, e := check(t, "used to the bound", im, b); at != 0 || e != api.OK {
		t.Errorf("P25.8: %d, %d", at, e)
	}
	wantRun(t, "one draw more", r, 2, 2, nothing(), false)
	b = kept(t, r)
	if at, e := check(t, "used beyond", im, b); at != len(b)-16 || e != api.ErrTraceForm {
		t.Errorf("P25.8: Read = %d, %d, want %d, %d", at, e, len(b)-16, api.ErrTraceForm)
	}
}

// TestAlikeNames: functions of one name are told apart by their objects, behind every end.
func TestAlikeNames(t *testing.T) {
	im := linked(t, entryText+"call a|exit|.func f|mov r0, 1|.extern a", ".global a|.func a|call b|exit|.func f|exit|.extern b", ".global b|.func b|call f|exit|.func f|mov r1, 1|ldxb r0, [r1+0]")
	r := made(t, im, api.Job{Fuel: 50})
	_, o, _, _ := r.Run(50)
	if o.Func != "f" || o.Object != 2 || o.At != 1 || o.Code != api.FaultMemory {
		t.Fatalf("another outcome than was meant: %+v", o)
	}
	b := kept(t, r)
	at := 8 + len(imageBytes(t, im)) + 1 + 1 + 8 + 2
	if want := laid(5, 1); !bytes.Equal(b[at:at+8], want) {
		t.Errorf("P25.6: the function and the place: %x, want %x", b[at:at+8], want)
	}
	wantRun(t, "what was read", again(t, im, b), 3, 0, o, true)
	for k := range im.Funcs {
		copy(b[at:], laid(k, 0))
		_, o, over, _ := again(t, im, b).Run(0)
		if f := im.Funcs[k]; o.Func != f.Name || o.Object != f.Object || o.At != 0 || !over {
			t.Errorf("P25.7: function %d: %+v", k, o)
		}
		check(t, "another function", im, b)
	}
}
