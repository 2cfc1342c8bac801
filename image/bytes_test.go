package image

import (
	"bytes"
	"encoding/binary"
	"math"
	"math/rand"
	"slices"
	"strconv"
	"strings"
	"testing"

	"spindle/api"
)

// The places in wholeBytes at which its parts begin.
const (
	wholeFuncs   = 28 + 12*8
	wholeTables  = wholeFuncs + 4*16
	wholeStrings = wholeTables + 3*20
)

// TestHead: pass 1, byte by byte and count by count.
func TestHead(t *testing.T) {
	b := wholeBytes()
	for length := range len(b) {
		at := 8
		if length < 28 {
			at = length
		}
		wantRead(t, "the first "+strconv.Itoa(length), b[:length], at, api.ErrImageForm)
	}
	for length := range 28 {
		wantRead(t, strconv.Itoa(length)+" bytes of no kind", bytes.Repeat([]byte{0xee}, length), length, api.ErrImageForm)
	}
	for tail := 1; tail < 40; tail++ {
		for _, filler := range []byte{0, 1, 'a', 0x18, 0x95, 0xff} {
			wantRead(t, "a tail", append(bytes.Clone(b), bytes.Repeat([]byte{filler}, tail)...), 8, api.ErrImageForm)
		}
	}
	for place := range 8 {
		for n := range 256 {
			if byte(n) != b[place] {
				wantRead(t, "the opening", put(b, place, byte(n)), place, api.ErrImageForm)
				wantRead(t, "the opening, and a wrong length", put(b, place, byte(n))[:40], place, api.ErrImageForm)
				wantRead(t, "the opening, twice", put(put(b, place, byte(n)), 7, 3), place, api.ErrImageForm)
			}
		}
	}
	for _, place := range []int{8, 12, 16, 20} {
		for _, n := range []int{-1, 0, 1, 2, 255, 256, 65536, 1 << 24, 1 << 31, math.MaxInt32} {
			if n != number(b, place) {
				wantRead(t, "a count", changed(b, place, n), 8, api.ErrImageForm)
			}
		}
	}
}

// TestCountsThatWrap: counts whose bytes are as many as there are only if they are reckoned with 32 bits, or with a part of them.
func TestCountsThatWrap(t *testing.T) {
	b := oneBytes()
	for _, slots := range []int{1<<29 + 1, 1<<30 + 1, 1<<31 + 1, 1<<24 + 1, 1<<16 + 1, 1<<8 + 1} {
		wantRead(t, "slots", changed(b, 8, slots), 8, api.ErrImageForm)
	}
	wantRead(t, "functions", changed(b, 12, 1<<28+1), 8, api.ErrImageForm)
	wantRead(t, "tables", changed(b, 16, 1<<30), 8, api.ErrImageForm)
	wantRead(t, "all", changed(changed(changed(changed(b, 8, -1), 12, -1), 16, -1), 20, -1), 8, api.ErrImageForm)
	wantRead(t, "a slot in place of eight strings", changed(changed(b, 8, 2), 20, -5), 8, api.ErrImageForm)
}

// TestCountsThatAgree: counts that are wrong each and right together, so that other passes find the fault.
func TestCountsThatAgree(t *testing.T) {
	b := wholeBytes()
	for slots := range 40 {
		for funcs := range 20 {
			for tables := range 16 {
				left := len(b) - 28 - 8*slots - 16*funcs - 20*tables
				if left < 0 {
					continue
				}
				checkBytes(t, "counts that agree", changed(changed(changed(changed(b, 8, slots), 12, funcs), 16, tables), 20, left))
			}
		}
	}
}

// TestText: pass 2.
func TestText(t *testing.T) {
	b := wholeBytes()
	second := 28 + 2*8
	for k := range 4 {
		for _, n := range []byte{1, 2, 0x18, 0x80, 0xff} {
			wantRead(t, "a second slot", put(b, second+k, n), second+k, api.ErrImageForm)
			for later := k; later < 4; later++ {
				wantRead(t, "a second slot, twice", put(put(b, second+later, 7), second+k, n), second+k, api.ErrImageForm)
			}
		}
	}
	last := 28 + 10*8
	wantRead(t, "a wide one whose second slot is wide", put(b, last+8, 0x18), last+8, api.ErrImageForm)
	wantRead(t, "a wide one in the last slot", put(put(b, last, 0x95), last+8, 0x18), last+8, api.ErrImageForm)
	wantRead(t, "a wide one in the last slot, and a fault ahead", put(put(put(b, last, 0x95), last+8, 0x18), second, 1), second, api.ErrImageForm)
	wantRead(t, "a wide one in the last slot, and one in the strings", put(put(put(b, last, 0x95), last+8, 0x18), wholeStrings, 1), last+8, api.ErrImageForm)
	for k := range 4 {
		turned := put(b, second+4+k, 0xa5)
		im, _, e := Read(turned)
		if e != api.OK || im.Text[1].Imm>>(32+8*k)&255 != 0xa5 {
			t.Errorf("P17.3: byte %d of the upper half: %x, %d", k, im.Text[1].Imm, e)
		}
		checkBytes(t, "an upper half", turned)
	}
}

// TestStrings: pass 3.
func TestStrings(t *testing.T) {
	b := oneBytes()[:52]
	withStrings := func(s string) []byte { return append(changed(b, 20, len(s)), s...) }
	for _, row := range []struct {
		strings string
		at      int
		wrong   api.Errno
	}{
		{"\x00f\x00", 0, api.OK}, {"", 52, api.ErrImageForm}, {"f", 52, api.ErrImageForm}, {"f\x00", 52, api.ErrImageForm}, {"\x00", 36, api.ErrImageForm},
		{"\x00f", 53, api.ErrImageForm}, {"\x00\x00", 53, api.ErrImageForm}, {"\x00f\x00\x00", 55, api.ErrImageForm}, {"\x00f\x00g", 55, api.ErrImageForm},
		{"\x00f\x00g\x00f\x00", 57, api.ErrImageForm}, {"\x00f\x00g\x00", 55, api.ErrImageForm}, {"\x00f\x00g\x00h\x00", 55, api.ErrImageForm},
		{"\x00" + strings.Repeat("x", 64) + "\x00", 0, api.OK}, {"\x00" + strings.Repeat("x", 65) + "\x00", 53, api.ErrImageForm}, {"\x00" + strings.Repeat("x", 64), 53, api.ErrImageForm},
		{"\x00f-\x00", 0, api.ErrImageName}, {"\x009\x00", 0, api.ErrImageName}, {"\x00\xff\x00", 0, api.ErrImageName},
	} {
		wantRead(t, "strings "+strconv.Quote(row.strings), withStrings(row.strings), row.at, row.wrong)
	}
}

// TestNamePlaces: pass 4, each place as the name's of each entry.
func TestNamePlaces(t *testing.T) {
	b := wholeBytes()
	starts := []int{1, 3, 5, 10, 12}
	for entry, most := range []int{0, 1, 2, 2, 3, 4, 4} {
		field := wholeFuncs + 16*entry
		if entry >= 4 {
			field = wholeTables + 20*(entry-4)
		}
		for place := -2; place < 20; place++ {
			turned := changed(b, field, place)
			if k := slices.Index(starts, place); k < 0 || k > most {
				wantRead(t, "a name's place", turned, field, api.ErrImageForm)
			} else {
				checkBytes(t, "a name's place", turned)
			}
		}
		for _, place := range []int{1<<8 + 1, 1<<16 + 1, 1<<24 + 1, 1<<31 + 1} {
			wantRead(t, "a name's place that is far off", changed(b, field, place), field, api.ErrImageForm)
		}
	}
	// The last name is left, as the last table has the one ahead of it.
	wantRead(t, "a name that is left", changed(b, wholeTables+40, 10), wholeStrings+12, api.ErrImageForm)
	wantRead(t, "no tables' names", changed(changed(changed(b, wholeTables, 1), wholeTables+20, 1), wholeTables+40, 1), wholeStrings+10, api.ErrImageForm)
	// A name that only a table has first: functions may not have it, nor may it stand ahead of theirs.
	wantRead(t, "the second name at first", changed(b, wholeFuncs, 3), wholeFuncs, api.ErrImageForm)
}

// TestSlotsOfFuncs: pass 4, the first slots and how many there are.
func TestSlotsOfFuncs(t *testing.T) {
	b := wholeBytes()
	firsts, counts := []int{0, 4, 7, 8}, []int{4, 3, 1, 4}
	for k := range 4 {
		at := wholeFuncs + 16*k
		for _, n := range []int{-1, 0, 1, 2, 3, 4, 5, 6, 7, 8, 9, 10, 11, 12, 13, 1<<8 + firsts[k], 1<<16 + firsts[k], 1<<24 + firsts[k], 1<<31 + firsts[k]} {
			if n != firsts[k] {
				wantRead(t, "a first slot", changed(b, at+8, n), at+8, api.ErrImageForm)
				wantRead(t, "a first slot, and how many", changed(changed(b, at+8, n), at+12, 0), at+8, api.ErrImageForm)
				wantRead(t, "a name's place, and a first slot", changed(changed(b, at, 2), at+8, n), at, api.ErrImageForm)
			}
		}
		for _, n := range []int{-1, 0, 1, 2, 3, 4, 5, 6, 7, 8, 9, 10, 11, 12, 13, 1<<8 + counts[k], 1<<16 + counts[k], 1<<24 + counts[k], 1<<31 + counts[k]} {
			checkBytes(t, "how many slots", changed(b, at+12, n))
		}
		wantRead(t, "no slots", changed(b, at+12, 0), at+12, api.ErrImageForm)
		wantRead(t, "too many slots", changed(b, at+12, 13-firsts[k]), at+12, api.ErrImageForm)
		wantRead(t, "far too many slots", changed(b, at+12, -1), at+12, api.ErrImageForm)
	}
	wantRead(t, "an end within a wide one", changed(b, wholeFuncs+12, 2), wholeFuncs+12, api.ErrImageForm)
	wantRead(t, "an end behind a wide one", changed(b, wholeFuncs+12, 3), wholeFuncs+16+8, api.ErrImageForm)
	wantRead(t, "the end within the last wide one", changed(b, wholeFuncs+48+12, 3), wholeFuncs+48+12, api.ErrImageForm)
	wantRead(t, "slots left behind all functions", changed(b, wholeFuncs+48+12, 2), 4, api.ErrImageFunc)
	wantRead(t, "slots left, and a name", changed(changed(b, wholeFuncs+48+12, 2), wholeTables+40, 10), wholeStrings+12, api.ErrImageForm)
}

// TestPassFive: what Check finds in what is read.
func TestPassFive(t *testing.T) {
	b := wholeBytes()
	for _, row := range []struct {
		place, n, at int
		wrong        api.Errno
	}{
		{24, 3, 0, api.OK}, {24, 4, 0, api.ErrImageEntry}, {24, -1, 0, api.ErrImageEntry}, {24, 1 << 31, 0, api.ErrImageEntry}, {24, 1 << 8, 0, api.ErrImageEntry}, {24, 1 << 16, 0, api.ErrImageEntry}, {24, 1 << 24, 0, api.ErrImageEntry},
		{wholeFuncs + 4, 64, 0, api.ErrImageName}, {wholeFuncs + 16 + 4, -1, 1, api.ErrImageName}, {wholeFuncs + 32 + 4, 0, 2, api.ErrImageName}, {wholeFuncs + 32 + 4, 2, 0, api.OK}, {wholeFuncs + 4, 1 << 8, 0, api.ErrImageName}, {wholeFuncs + 4, 1 << 16, 0, api.ErrImageName}, {wholeFuncs + 4, 1 << 24, 0, api.ErrImageName},
		{wholeFuncs + 48, 1, wholeTables, api.ErrImageForm}, {wholeTables + 20, 1, 6, api.ErrImageName}, {wholeTables + 20, 10, 5, api.ErrImageName}, {wholeTables + 20, 12, 6, api.ErrImageName},
		{wholeTables + 4, 0, 0, api.ErrImageTable}, {wholeTables + 4, 3, 0, api.ErrImageTable}, {wholeTables + 4, 1, 0, api.ErrImageTable}, {wholeTables + 8, 65, 0, api.ErrImageTable},
		{wholeTables + 20 + 8, 5, 1, api.ErrImageTable}, {wholeTables + 20 + 12, 4097, 1, api.ErrImageTable}, {wholeTables + 20 + 16, 65536, 1, api.ErrImageTable}, {wholeTables + 40 + 16, -1, 2, api.ErrImageTable}, {wholeTables + 40 + 16, 65536, 0, api.OK},
	} {
		wantRead(t, strconv.Itoa(row.n)+" at "+strconv.Itoa(row.place), changed(b, row.place, row.n), row.at, row.wrong)
	}
	none := []byte("SPIN\x01\x00\x00\x00" + strings.Repeat("\x00", 12) + "\x01\x00\x00\x00" + strings.Repeat("\x00", 5))
	wantRead(t, "an image of nothing", none, 0, api.ErrImageEntry)
	wantRead(t, "zeros", make([]byte, 28), 0, api.ErrImageForm)
	wantRead(t, "an image of a table alone", slices.Concat(laid([]byte("SPIN"), [6]uint32{1, 0, 0, 1, 3, 0}), laid([5]uint32{1, 1, 4, 1, 1}), []byte("\x00t\x00")), 0, api.ErrImageEntry)
	wantRead(t, "an image of a slot alone", slices.Concat(laid([]byte("SPIN"), [6]uint32{1, 1, 0, 0, 1, 0}), make([]byte, 9)), 0, api.ErrImageFunc)
}

// TestFirstPass: of bytes with faults of any of the passes the first pass decides, though its fault may stand behind.
func TestFirstPass(t *testing.T) {
	places := []int{3, 28 + 16, wholeStrings, wholeFuncs, 24}
	answers := []int{3, 28 + 16, wholeStrings, wholeFuncs, 0}
	for set := range 1 << 5 {
		b, first := wholeBytes(), -1
		for k, place := range places {
			if set>>k&1 == 1 {
				b[place] = 0x77
				if first < 0 {
					first = k
				}
			}
		}
		what := "faults of the passes " + strconv.FormatInt(int64(set), 2)
		switch first {
		case -1:
			wantRead(t, what, b, 0, api.OK)
		case 4:
			wantRead(t, what, b, 0, api.ErrImageEntry)
		default:
			wantRead(t, what, b, answers[first], api.ErrImageForm)
		}
	}
}

// TestEveryByte: each byte of an image with each number.
func TestEveryByte(t *testing.T) {
	for _, b := range [][]byte{oneBytes(), wholeBytes()} {
		for place := range b {
			for n := range 256 {
				checkBytes(t, "byte "+strconv.Itoa(place)+" as "+strconv.Itoa(n), put(b, place, byte(n)))
			}
		}
	}
}

// TestEveryTwoBytes: each two bytes of an image turned to some numbers.
func TestEveryTwoBytes(t *testing.T) {
	t.Parallel()
	few := []byte{0, 1, 3, 0x18}
	for _, b := range [][]byte{oneBytes(), wholeBytes()} {
		for first := range b {
			for second := range first {
				for k := range 4 {
					checkBytes(t, "two bytes", put(put(b, first, few[k]), second, few[(k+first+second)%4]))
				}
			}
		}
	}
}

// TestNoOtherLength: no byte can be put behind an image's bytes, or taken away from their end.
func TestNoOtherLength(t *testing.T) {
	chance := rand.New(rand.NewSource(17))
	for range 200 {
		b, _, _ := Write(imageOfChance(chance))
		for length := range len(b) {
			want := 8
			if length < 28 {
				want = length
			}
			if _, at, e := Read(b[:length]); at != want || e != api.ErrImageForm {
				t.Fatalf("P17.4: Read(%d of %d) = %d, %d", length, len(b), at, e)
			}
		}
		for n := range 256 {
			if _, at, e := Read(append(bytes.Clone(b), byte(n))); at != 8 || e != api.ErrImageForm {
				t.Fatalf("P17.4: Read(%s and %d) = %d, %d", shortBytes(b), n, at, e)
			}
		}
	}
}

// pick gives one of several.
func pick[E any](chance *rand.Rand, list ...E) E { return list[chance.Intn(len(list))] }

// insnOfChance gives an instruction whose fields are within their widths.
func insnOfChance(chance *rand.Rand) api.Insn {
	i := api.Insn{Op: pick(chance, 0x18, 0x18, 0, 0x95, 0xb7, chance.Intn(256)), Dst: chance.Intn(16), Src: chance.Intn(16), Off: pick(chance, 0, -1, -32768, 32767, chance.Intn(1<<16)-1<<15), Imm: int(int32(chance.Uint32()))}
	if i.Op == 0x18 {
		i.Imm = pick(chance, 0, -1, math.MinInt, math.MaxInt, 1<<32, 1<<31, -1<<31, -1<<32, int(chance.Uint64()))
	}
	if chance.Intn(4) == 0 {
		return api.Insn{Op: i.Op}
	}
	return i
}

// imageOfChance gives an image that may be.
func imageOfChance(chance *rand.Rand) api.Image {
	var im api.Image
	pool := []string{"f", "g", "h", "a", "b", "c$", "_.9", "main", strings.Repeat("y", 64)}
	seen := map[api.ImgFunc]int{}
	for range 1 + chance.Intn(6) {
		f := api.ImgFunc{Name: pick(chance, pool...), Object: pick(chance, 0, 1, 63)}
		if seen[f]++; seen[f] > 1 {
			continue
		}
		f.First, f.Count = len(im.Text), 1+chance.Intn(4)
		for range f.Count {
			im.Text = append(im.Text, insnOfChance(chance))
		}
		im.Funcs = append(im.Funcs, f)
	}
	slices.Sort(pool)
	for _, name := range pool {
		if chance.Intn(3) > 0 {
			continue
		}
		im.Tables = append(im.Tables, pick(chance, array(name, 1+chance.Intn(4096), 1+chance.Intn(4000)), hash(name, 1+chance.Intn(64), 1+chance.Intn(200), 1+chance.Intn(60000))))
	}
	im.Entry = chance.Intn(len(im.Funcs))
	return im
}

// spoilOfChance makes something of an image another.
func spoilOfChance(chance *rand.Rand, im *api.Image) {
	odd := pick(chance, math.MinInt, -1, 0, 1, 2, 3, 4, 16, 64, 256, 1<<16, 1<<31, 1<<32, math.MaxInt)
	f := &im.Funcs[chance.Intn(len(im.Funcs))]
	i := &im.Text[chance.Intn(len(im.Text))]
	switch chance.Intn(10) {
	case 0:
		f.Name = pick(chance, "", "f", "g", "9", "f-", strings.Repeat("z", 65))
	case 1:
		f.Object = odd
	case 2:
		f.First += odd
	case 3:
		f.Count += odd
	case 4:
		im.Entry = odd
	case 5:
		im.Text = append(im.Text, insnOfChance(chance))
	case 6, 7:
		*pick(chance, &i.Op, &i.Dst, &i.Src, &i.Off, &i.Imm) = odd
	case 8:
		im.Tables = append(im.Tables, array(pick(chance, "zz", "a", "z", "", "é"), 1, 1))
	default:
		if len(im.Tables) > 0 {
			d := &im.Tables[chance.Intn(len(im.Tables))]
			*pick(chance, &d.Kind, &d.Key, &d.Value, &d.Entries) = odd
		}
	}
}

func TestImagesOfChance(t *testing.T) {
	t.Parallel()
	chance := rand.New(rand.NewSource(1))
	told := map[api.Errno]int{}
	for range 60000 {
		im := imageOfChance(chance)
		if k, e := checkImage(t, im); e != api.OK {
			t.Fatalf("P17.1: Check(%s) = %d, %d", short(im), k, e)
		}
		for range 1 + chance.Intn(3) {
			spoilOfChance(chance, &im)
		}
		_, e := checkImage(t, im)
		told[e]++
	}
	for _, e := range []api.Errno{api.OK, api.ErrImageName, api.ErrImageFunc, api.ErrImageTable, api.ErrImageEntry, api.ErrImageInsn} {
		if told[e] < 500 {
			t.Errorf("the error %d was told %d times: the images of chance are too few", e, told[e])
		}
	}
}

// turnOfChance turns something in an image's bytes: a byte, a field, or what two entries have in the same field.
func turnOfChance(chance *rand.Rand, b []byte) {
	slots, funcs, tables := number(b, 8), number(b, 12), number(b, 16)
	funcsAt := 28 + 8*slots
	tablesAt := funcsAt + 16*funcs
	stringsAt := tablesAt + 20*tables
	if stringsAt >= len(b) || funcs == 0 || slots == 0 {
		return
	}
	odd := uint32(pick(chance, -1, 0, 1, 2, 3, 4, 5, 7, 1<<8, 1<<16, 1<<31, chance.Intn(20)))
	switch chance.Intn(6) {
	case 0:
		b[chance.Intn(len(b))] = byte(chance.Intn(256))
	case 1:
		binary.LittleEndian.PutUint32(b[funcsAt+4*chance.Intn(4*funcs):], odd)
	case 2:
		if tables > 0 {
			binary.LittleEndian.PutUint32(b[tablesAt+4*chance.Intn(5*tables):], odd)
		}
	case 3:
		b[28+8*chance.Intn(slots)] = pick[byte](chance, 0x18, 0, 0x95)
	case 4:
		b[stringsAt+chance.Intn(len(b)-stringsAt)] = pick[byte](chance, 0, 'f', 'g', 'a', '-')
	default:
		one, other := funcsAt+16*chance.Intn(funcs)+4*chance.Intn(4), funcsAt+16*chance.Intn(funcs)+4*chance.Intn(4)
		copy(b[one:one+4], bytes.Clone(b[other:other+4]))
	}
}

func TestBytesOfChance(t *testing.T) {
	t.Parallel()
	chance := rand.New(rand.NewSource(2))
	told := map[api.Errno]int{}
	for range 80000 {
		b, _, _ := Write(imageOfChance(chance))
		for range 1 + chance.Intn(4) {
			turnOfChance(chance, b)
		}
		_, e := checkBytes(t, "bytes of chance", b)
		told[e]++
	}
	for _, e := range []api.Errno{api.OK, api.ErrImageForm, api.ErrImageName, api.ErrImageFunc, api.ErrImageTable, api.ErrImageEntry} {
		if told[e] < 100 {
			t.Errorf("the error %d was told %d times: the bytes of chance are too few", e, told[e])
		}
	}
}

// TestSmallBytes: all bytes of two slots, one or two functions and a table with small numbers in the fields that pass 4 looks at.
func TestSmallBytes(t *testing.T) {
	t.Parallel()
	texts := [][]byte{make([]byte, 16), append([]byte{0x18}, make([]byte, 15)...), append(make([]byte, 8), 0x95, 0, 0, 0, 0, 0, 0, 0)}
	for _, table := range []string{"\x00", "\x00f\x00", "\x00f\x00g\x00", "\x00f\x00g\x00h\x00"} {
		for _, text := range texts {
			for set := range 6 * 3 * 4 * 6 * 4 * 4 * 6 {
				digit := func(base int) uint32 { n := set % base; set /= base; return uint32(n) }
				first := laid([4]uint32{digit(6), 0, digit(3), digit(4)})
				second := laid([4]uint32{digit(6), 1, digit(4), digit(4)})
				third := laid([5]uint32{digit(6), 1, 4, 1, 1})
				head := laid([]byte("SPIN"), [6]uint32{1, 2, 2, 1, uint32(len(table)), 1})
				checkBytes(t, "small bytes", slices.Concat(head, text, first, second, third, []byte(table)))
			}
		}
	}
}
