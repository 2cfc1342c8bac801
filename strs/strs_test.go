package strs

import (
	"bytes"
	"math"
	"math/rand"
	"slices"
	"strconv"
	"strings"
	"testing"
	"unsafe"

	"spindle/api"
)

const maxName = 64

func as(n int) string { return strings.Repeat("a", n) }

// tableOf gives a table with these names, which are all names and no two alike.
func tableOf(t *testing.T, names ...string) *Table {
	t.Helper()
	x := New()
	if x == nil {
		t.Fatal("P8.1: New() = nil")
	}
	for _, name := range names {
		if _, e := x.Add(name); e != api.OK {
			t.Fatalf("P8.2: Add(%.80q) = %d, want OK", name, e)
		}
	}
	return x
}

func checkAdd(t *testing.T, x *Table, name string, wantPlace int, want api.Errno) {
	t.Helper()
	if place, e := x.Add(name); place != wantPlace || e != want {
		t.Errorf("P8.2: Add(%.80q) = %d, %d, want %d, %d", name, place, e, wantPlace, want)
	}
}

func checkAt(t *testing.T, x *Table, place int, wantName string, want api.Errno) {
	t.Helper()
	if name, e := x.At(place); name != wantName || e != want {
		t.Errorf("P8.3: At(%d) = %.80q, %d, want %.80q, %d", place, name, e, wantName, want)
	}
}

func checkNames(t *testing.T, x *Table, want ...string) {
	t.Helper()
	if names, e := x.Names(); !slices.Equal(names, want) || e != api.OK {
		t.Errorf("P8.4: Names() = %.200q, %d, want %.200q, OK", names, e, want)
	}
}

func checkBytes(t *testing.T, x *Table, want string) {
	t.Helper()
	if b, e := x.Bytes(); string(b) != want || e != api.OK {
		t.Errorf("P8.5: Bytes() = %.200q, %d, want %.200q, OK", b, e, want)
	}
}

func checkRefused(t *testing.T, b string, wantAt int) {
	t.Helper()
	if x, at, e := Read([]byte(b)); x != nil || at != wantAt || e != api.ErrStrsForm {
		t.Errorf("P8.6: Read(%.200q) = %v, %d, %d, want none, %d, ErrStrsForm", b, x != nil, at, e, wantAt)
	}
}

// checkTable holds all that a table tells against the plain one, and changes nothing.
func checkTable(t *testing.T, x *Table, p plain) {
	t.Helper()
	checkNames(t, x, p...)
	all := p.bytes()
	checkBytes(t, x, all)
	for place := -2; place <= len(all)+2; place++ {
		name, e := p.at(place)
		checkAt(t, x, place, name, e)
	}
	for _, name := range p {
		place := p.place(name)
		checkAdd(t, x, name, place, api.OK)
		if !strings.HasPrefix(all[place:], name) {
			t.Errorf("P8.7: the bytes at %d are not %.80q", place, name)
		}
	}
	checkBytes(t, x, all)
}

// checkRead holds Read against the reading by the chapter's words, and tells whether the bytes are a table's.
func checkRead(t *testing.T, b string) bool {
	t.Helper()
	p, wantAt, want := readPlain(b)
	if want != api.OK {
		checkRefused(t, b, wantAt)
		return false
	}
	x, at, e := Read([]byte(b))
	if x == nil || at != 0 || e != api.OK {
		t.Errorf("P8.6: Read(%.200q) = %v, %d, %d, want a table, 0, OK", b, x != nil, at, e)
		return false
	}
	if p.bytes() != b {
		t.Errorf("P8.7: the bytes of what was read of %.200q are %.200q", b, p.bytes())
	}
	checkTable(t, x, p)
	return true
}

func TestNewTable(t *testing.T) {
	x := tableOf(t)
	checkBytes(t, x, "\x00")
	checkNames(t, x)
	checkAt(t, x, 0, "", api.OK)
	checkAt(t, x, 1, "", api.ErrStrsPlace)
	checkTable(t, x, nil)
}

func TestExamples(t *testing.T) {
	x := New()
	checkAdd(t, x, "foobar", 1, api.OK)
	checkAdd(t, x, "bar", 8, api.OK)
	checkAdd(t, x, "foobar", 1, api.OK)
	checkBytes(t, x, "\x00foobar\x00bar\x00")
	checkAt(t, x, 1, "foobar", api.OK)
	checkAt(t, x, 8, "bar", api.OK)
	for _, place := range []int{4, 7, 12, -1} {
		checkAt(t, x, place, "", api.ErrStrsPlace)
	}
	checkAdd(t, x, "", 0, api.ErrStrsPlace)
	checkAdd(t, x, as(65), 0, api.ErrStrsPlace)
	checkAdd(t, x, "a\x00b", 0, api.ErrStrsPlace)
	checkAdd(t, x, as(64), 12, api.OK)
	checkTable(t, x, plain{"foobar", "bar", as(64)})
}

func TestReadExamples(t *testing.T) {
	x, at, e := Read([]byte("\x00a\x00b\x00"))
	if at != 0 || e != api.OK {
		t.Fatalf("P8.6: Read of two names = %d, %d", at, e)
	}
	checkNames(t, x, "a", "b")
	checkRefused(t, "", 0)
	checkRefused(t, "a\x00", 0)
	checkRefused(t, "\x00a", 1)
	checkRefused(t, "\x00a\x00\x00", 3)
	checkRefused(t, "\x00a\x00b\x00a\x00", 5)
	checkRefused(t, "\x00"+as(65)+"\x00", 1)
}

func TestFirstByte(t *testing.T) {
	for k := range 256 {
		for _, rest := range []string{"", "\x00", "a\x00", "\x00a\x00", "\x00\x00", "a"} {
			checkRead(t, string([]byte{byte(k)})+rest)
		}
	}
	if x, _, e := Read(nil); x != nil || e != api.ErrStrsForm {
		t.Errorf("P8.6: Read(nil) = %v, %d", x != nil, e)
	}
}

func TestLengths(t *testing.T) {
	for n := range 140 {
		_, wantPlace, want := plain{"b"}.add(as(n))
		checkAdd(t, tableOf(t, "b"), as(n), wantPlace, want)
		for _, ahead := range []string{"\x00", "\x00b\x00", "\x00b\x00" + as(64) + "\x00"} {
			for _, behind := range []string{"", "\x00", "\x00c\x00", "\x00\x00", "\x00b\x00", "\x00" + as(65), "\x00c"} {
				checkRead(t, ahead+as(n)+behind)
			}
		}
	}
}

// Every byte but 0 is fine anywhere in a name: bytes above 127, and such as make no UTF-8, too.
func TestBytesOfNames(t *testing.T) {
	for _, n := range []int{1, 2, 3, 63, 64} {
		for where := range n {
			for k := range 256 {
				name := []byte(as(n))
				name[where] = byte(k)
				p, place, want := plain{"ahead"}.add(string(name))
				x := tableOf(t, "ahead")
				checkAdd(t, x, string(name), place, want)
				checkBytes(t, x, p.bytes())
				checkRead(t, "\x00ahead\x00"+string(name)+"\x00")
			}
		}
	}
}

// Each two bytes 0 in a name, the last byte and the one behind the 64th among them.
func TestNoughtsInNames(t *testing.T) {
	x := tableOf(t, "b")
	for n := 1; n <= 66; n++ {
		for k := range n {
			name := []byte(as(n))
			name[k] = 0
			checkAdd(t, x, string(name), 0, api.ErrStrsPlace)
			name[n/2] = 0
			checkAdd(t, x, string(name), 0, api.ErrStrsPlace)
		}
	}
	checkTable(t, x, plain{"b"})
}

// Names that begin, end or hold one another are names of their own and share no bytes.
func TestNamesWithinNames(t *testing.T) {
	names := []string{"foobar", "bar", "foo", "r", "f", "oob", "foobarfoobar", "FOOBAR", "foobar ", " foobar"}
	for k := range names {
		turned := append(slices.Clone(names[k:]), names[:k]...)
		checkTable(t, tableOf(t, turned...), turned)
		checkRead(t, plain(turned).bytes())
	}
	x := tableOf(t, "foobar")
	checkAdd(t, x, "bar", 8, api.OK)
	checkAdd(t, x, "foo", 12, api.OK)
	checkBytes(t, x, "\x00foobar\x00bar\x00foo\x00")
}

// All byte strings of up to eleven bytes of three sorts.
func TestShortBytes(t *testing.T) {
	taken := 0
	var grow func(b string)
	grow = func(b string) {
		if checkRead(t, b) {
			taken++
		}
		if len(b) < 11 {
			for _, next := range []string{"\x00", "a", "\xff"} {
				grow(b + next)
			}
		}
	}
	grow("")
	if taken < 200 {
		t.Errorf("P8.6: only %d of the short byte strings are tables", taken)
	}
}

// The first wrong name by place decides, whatever is wrong with it and with those behind it.
func TestFirstFault(t *testing.T) {
	wrong := []string{"\x00", as(65) + "\x00", "b\x00", as(100) + "\x00"}
	last := append(slices.Clone(wrong), "c", as(64), as(65), as(66), "b")
	for _, first := range wrong {
		checkRefused(t, "\x00b\x00cc\x00"+first, 6)
		for _, second := range last {
			checkRefused(t, "\x00b\x00cc\x00"+first+second, 6)
			checkRefused(t, "\x00b\x00cc\x00"+first+"d\x00"+second, 6)
			checkRefused(t, "\x00b\x00cc\x00d\x00"+first+second, 8)
			checkRefused(t, "x\x00b\x00"+first+second, 0)
		}
	}
	for _, second := range last {
		checkRefused(t, "\x00b\x00cc\x00"+second, 6)
	}
}

// Any one byte of a table's bytes turned to another, taken out, or put in anew.
func TestChangedBytes(t *testing.T) {
	for _, p := range []plain{{"a", "b", "ab"}, {as(64), "a", as(63)}, {"foobar", "bar", "c", "\xff\xfe"}} {
		whole := p.bytes()
		for k := range len(whole) {
			checkRead(t, whole[:k])
			checkRead(t, whole[k:])
			checkRead(t, whole[:k]+whole[k+1:])
			for _, c := range []string{"\x00", "a", "b", "c", "\x01", "\xff"} {
				checkRead(t, whole[:k]+c+whole[k+1:])
				checkRead(t, whole[:k]+c+whole[k:])
			}
		}
	}
}

// randomName gives one of few names, now and then no name.
func randomName(r *rand.Rand) string {
	switch r.Intn(10) {
	case 0:
		return []string{"", "\x00", "a\x00", "\x00a", as(65), as(1000)}[r.Intn(6)]
	case 1:
		return strings.Repeat(string([]byte{byte(1 + r.Intn(255))}), 60+r.Intn(7))
	}
	return strconv.Itoa(r.Intn(40))
}

func TestManyAdds(t *testing.T) {
	r := rand.New(rand.NewSource(8))
	for range 200 {
		x, p := New(), plain(nil)
		for range 60 {
			name := randomName(r)
			after, place, want := p.add(name)
			checkAdd(t, x, name, place, want)
			p = after
			checkBytes(t, x, p.bytes())
		}
		checkTable(t, x, p)
		checkRead(t, p.bytes())
	}
}

// A table that was read goes on as the one whose bytes they are.
func TestAddToWhatWasRead(t *testing.T) {
	r := rand.New(rand.NewSource(88))
	for range 200 {
		x, p := New(), plain(nil)
		for range 30 {
			name := randomName(r)
			after, place, want := p.add(name)
			checkAdd(t, x, name, place, want)
			p = after
			b, _ := x.Bytes()
			y, at, e := Read(b)
			if y == nil || at != 0 || e != api.OK {
				t.Fatalf("P8.7: Read(%.200q) = %v, %d, %d", b, y != nil, at, e)
			}
			x = y
		}
		checkTable(t, x, p)
	}
}

func TestRefusedAddChangesNothing(t *testing.T) {
	x := tableOf(t, "foobar", "bar")
	for _, name := range []string{"", "\x00", "foobar\x00", "\x00bar", as(65), strings.Repeat("\x00", 70)} {
		checkAdd(t, x, name, 0, api.ErrStrsPlace)
		checkTable(t, x, plain{"foobar", "bar"})
	}
	checkAdd(t, x, "next", 12, api.OK)
}

func TestOddPlaces(t *testing.T) {
	for _, x := range []*Table{tableOf(t), tableOf(t, "a"), tableOf(t, "foobar", "bar", as(64))} {
		for _, place := range []int{math.MinInt, math.MinInt + 1, math.MinInt32, -65, -1, 80, 1 << 16, 1 << 32, 1<<32 + 1, math.MaxInt} {
			checkAt(t, x, place, "", api.ErrStrsPlace)
		}
		checkAt(t, x, 0, "", api.OK)
	}
}

func TestNilTable(t *testing.T) {
	var x *Table
	for _, name := range []string{"a", "", as(65)} {
		if place, e := x.Add(name); place != 0 || e != api.ErrNil {
			t.Errorf("P8.2: Add to a nil table = %d, %d, want 0, ErrNil", place, e)
		}
	}
	for _, place := range []int{0, 1, -1} {
		if name, e := x.At(place); name != "" || e != api.ErrNil {
			t.Errorf("P8.3: At of a nil table = %q, %d, want nothing, ErrNil", name, e)
		}
	}
	if names, e := x.Names(); len(names) > 0 || e != api.ErrNil {
		t.Errorf("P8.4: Names of a nil table = %q, %d, want none, ErrNil", names, e)
	}
	if b, e := x.Bytes(); len(b) > 0 || e != api.ErrNil {
		t.Errorf("P8.5: Bytes of a nil table = %q, %d, want none, ErrNil", b, e)
	}
}

// A table that no call has made must not make a call panic.
func TestTableOfNobody(t *testing.T) {
	x := &Table{}
	x.At(0)
	x.At(1)
	x.Names()
	x.Bytes()
	x.Add("")
	x.Add("a")
	x.Add("a")
	x.At(1)
	y := *x
	y.Add("b")
	x.Add("b")
	x.Add("c")
	x.Names()
	x.Bytes()
	y.At(3)
}

func TestTwoTables(t *testing.T) {
	x, y := tableOf(t), tableOf(t)
	checkAdd(t, x, "a", 1, api.OK)
	checkAdd(t, y, "b", 1, api.OK)
	checkAdd(t, y, "a", 3, api.OK)
	checkTable(t, x, plain{"a"})
	checkTable(t, y, plain{"b", "a"})
	b := []byte("\x00a\x00b\x00")
	v, _, _ := Read(b)
	w, _, _ := Read(b)
	checkAdd(t, v, "c", 5, api.OK)
	checkAdd(t, w, "d", 5, api.OK)
	checkTable(t, v, plain{"a", "b", "c"})
	checkTable(t, w, plain{"a", "b", "d"})
}

// The bytes that were read, and their spare room, are neither changed nor kept.
func TestBytesAreLeft(t *testing.T) {
	whole := []byte("\x00foobar\x00bar\x00spare room")
	for n := range 13 {
		b := slices.Clone(whole)
		x, _, e := Read(b[:n])
		if e == api.OK {
			p, _, _ := readPlain(string(whole[:n]))
			checkAdd(t, x, "another", n, api.OK)
			checkAdd(t, x, "and another", n+8, api.OK)
			if !bytes.Equal(b, whole) {
				t.Errorf("P8.7: Read(%q) and Add changed the bytes to %q", whole[:n], b)
			}
			for k := range b {
				b[k] = 'x'
			}
			checkTable(t, x, append(p, "another", "and another"))
			continue
		}
		if !bytes.Equal(b, whole) {
			t.Errorf("P8.6: Read(%q) changed the bytes to %q", whole[:n], b)
		}
	}
}

// A name is not kept: what Add was handed may be a piece of something far longer.
func TestNamesAreNotKept(t *testing.T) {
	memory := []byte("foobar")
	x := New()
	checkAdd(t, x, unsafe.String(&memory[0], len(memory)), 1, api.OK)
	copy(memory, "xxxxxx")
	checkTable(t, x, plain{"foobar"})
}

// Whoever writes into what was handed out, or appends to it, changes nothing else; nor does Add change what was handed out.
func TestAnswersAreNew(t *testing.T) {
	names := longNames(40)
	for n := range names {
		p := plain(names[:n:n])
		made := tableOf(t, p...)
		read, _, _ := Read([]byte(p.bytes()))
		for _, x := range []*Table{made, read} {
			list, _ := x.Names()
			other, _ := x.Names()
			b, _ := x.Bytes()
			more, _ := x.Bytes()
			spoil(append(list, "one more"), append(b, "one more"...))
			spoil(list, b)
			checkTable(t, x, p)
			if !slices.Equal(other, p) || string(more) != p.bytes() {
				t.Errorf("P8.4, P8.5: two answers share memory: %.200q, %.200q", other, more)
			}
			checkAdd(t, x, "next", len(p.bytes()), api.OK)
			spoil(list[:cap(list)], b[:cap(b)])
			checkTable(t, x, append(p, "next"))
			if !slices.Equal(other, p) || string(more) != p.bytes() {
				t.Errorf("P8.4, P8.5: Add changed what was handed out: %.200q, %.200q", other, more)
			}
		}
	}
}

// spoil writes over all of two answers.
func spoil(names []string, b []byte) {
	for k := range names {
		names[k] = "spoilt"
	}
	for k := range b {
		b[k] = 'x'
	}
}

// longNames gives so many names, no two alike, of 1 to 64 bytes.
func longNames(n int) []string {
	names := make([]string, n)
	for k := range names {
		names[k] = strconv.FormatInt(int64(k), 36)
		if k%50 == 0 {
			names[k] += strings.Repeat("$", maxName-len(names[k]))
		}
	}
	return names
}

// checkLong looks whether a table has just these names at these places; what is wrong is told once.
func checkLong(t *testing.T, x *Table, names []string, places []int) {
	t.Helper()
	if got, e := x.Names(); !slices.Equal(got, names) || e != api.OK {
		t.Errorf("P8.4: Names of %d names = %d, %d", len(names), len(got), e)
	}
	for k, name := range names {
		place, e1 := x.Add(name)
		got, e2 := x.At(places[k])
		none, e3 := x.At(places[k] + 1)
		if place != places[k] || got != name || none != "" || e1 != api.OK || e2 != api.OK || e3 != api.ErrStrsPlace {
			t.Fatalf("P8.2, P8.3: %q stands at %d (%d), there %q (%d), behind it %q (%d), want %d", name, place, e1, got, e2, none, e3, places[k])
		}
	}
}

func TestLongTable(t *testing.T) {
	names := longNames(1_200_000)
	x := New()
	places := make([]int, len(names))
	var all strings.Builder
	all.WriteByte(0)
	for k, name := range names {
		places[k] = all.Len()
		x.Add(name)
		all.WriteString(name + "\x00")
	}
	checkLong(t, x, names, places)
	b, e := x.Bytes()
	if string(b) != all.String() || e != api.OK {
		t.Fatalf("P8.5: Bytes of %d names = %d bytes, %d, want %d, OK", len(names), len(b), e, all.Len())
	}
	y, at, e := Read(b)
	if y == nil || at != 0 || e != api.OK {
		t.Fatalf("P8.6: Read of %d names = %v, %d, %d", len(names), y != nil, at, e)
	}
	checkLong(t, y, names, places)
	checkAdd(t, y, "last one", len(b), api.OK)
	for _, behind := range []string{"\x00", names[0] + "\x00", "new"} {
		checkRefused(t, all.String()+behind, len(b))
	}
}

func TestLongBytes(t *testing.T) {
	const size = 1 << 26
	b := make([]byte, size)
	if x, at, e := Read(b); x != nil || at != 1 || e != api.ErrStrsForm {
		t.Errorf("P8.6: Read of noughts = %v, %d, %d, want none, 1, ErrStrsForm", x != nil, at, e)
	}
	for k := range b {
		b[k] = 'a'
	}
	if x, at, e := Read(b); x != nil || at != 0 || e != api.ErrStrsForm {
		t.Errorf("P8.6: Read of a long name alone = %v, %d, %d, want none, 0, ErrStrsForm", x != nil, at, e)
	}
	b[0] = 0
	if x, at, e := Read(b); x != nil || at != 1 || e != api.ErrStrsForm {
		t.Errorf("P8.6: Read of a long name = %v, %d, %d, want none, 1, ErrStrsForm", x != nil, at, e)
	}
	x := New()
	b[0] = 'a'
	checkAdd(t, x, string(b), 0, api.ErrStrsPlace)
	checkTable(t, x, nil)
}
