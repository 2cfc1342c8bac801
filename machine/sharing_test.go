package machine

import (
	"reflect"
	"slices"
	"testing"

	"spindle/api"
)

// roomy gives a list with the same items, and spare room behind them that is filled.
func roomy[E any](list []E, filler E) []E {
	return append(slices.Clone(list), filler, filler, filler)[:len(list)]
}

// roomyEntries: of lists of lists each.
func roomyEntries(es []api.Entry) []api.Entry {
	es = roomy(es, api.Entry{Place: 99})
	for k, e := range es {
		es[k].Key, es[k].Value = roomy(e.Key, 0xee), roomy(e.Value, 0xee)
	}
	return es
}

func roomyContents(cs []api.Contents) []api.Contents {
	cs = roomy(cs, api.Contents{Table: "room"})
	for k, c := range cs {
		cs[k].Entries = roomyEntries(c.Entries)
	}
	return cs
}

func roomyImage(im api.Image) api.Image {
	im.Text, im.Funcs, im.Tables = roomy(im.Text, api.Insn{Op: 99}), roomy(im.Funcs, api.ImgFunc{Name: "room"}), roomy(im.Tables, api.TableDef{Name: "room"})
	return im
}

func roomyJob(job api.Job) api.Job {
	job.Context, job.Draws, job.Contents = roomy(job.Context, 0xee), roomy(job.Draws, 0xee), roomyContents(job.Contents)
	return job
}

func roomyFrozen(f api.Frozen) api.Frozen {
	f.Outcome.Context, f.Outcome.Tables = roomy(f.Outcome.Context, 0xee), roomyContents(f.Outcome.Tables)
	f.Context, f.Draws, f.Entries = roomy(f.Context, 0xee), roomy(f.Draws, 0xee), roomyContents(f.Entries)
	f.Frames = roomy(f.Frames, api.Frame{At: 99})
	for k, frame := range f.Frames {
		f.Frames[k].Regs, f.Frames[k].Bytes = roomy(frame.Regs, 0xee), roomy(frame.Bytes, 0xee)
	}
	f.Tables = roomy(f.Tables, api.Region{First: 99})
	for k, r := range f.Tables {
		f.Tables[k].Data = roomy(r.Data, 0xee)
	}
	return f
}

// all gives each list that stands in a value, with its spare room, as one list of any kind.
func all(v reflect.Value) []any {
	var lists []any
	switch v.Kind() {
	case reflect.Struct:
		for k := range v.NumField() {
			lists = append(lists, all(v.Field(k))...)
		}
	case reflect.Slice:
		whole := v.Slice(0, v.Cap())
		own := reflect.MakeSlice(v.Type(), v.Cap(), v.Cap())
		reflect.Copy(own, whole)
		lists = append(lists, own.Interface())
		for k := range v.Len() {
			lists = append(lists, all(v.Index(k))...)
		}
	}
	return lists
}

// spoil writes over each list that stands in a value, the inner ones first, and its spare room.
func spoil(v reflect.Value) {
	switch v.Kind() {
	case reflect.Struct:
		for k := range v.NumField() {
			spoil(v.Field(k))
		}
	case reflect.Slice:
		for k := range v.Len() {
			spoil(v.Index(k))
		}
		whole := v.Slice(0, v.Cap())
		for k := range whole.Len() {
			switch item := whole.Index(k); item.Kind() {
			case reflect.Uint8, reflect.Uint64:
				item.SetUint(item.Uint() ^ 0x5a)
			default:
				item.SetZero()
			}
		}
	}
}

// busy gives an image with everything in it, and a job.
func busy(t *testing.T) (api.Image, api.Job) {
	im := linked(t, ".map h hash 1 3 3|.map a array 4 5 2|"+entryText+
		"mov r6, 9|stb [r10-1], 7|stb [r1+1], 5|x: ldmap r1, h|mov r2, r10|add r2, -1|mov r3, r10|add r3, -8|mov r4, 0|call 2|call f|sub r6, 1|jne r6, 0, x|exit|"+
		".func f|call 3|add r7, r0|mov r0, r7|ldmap r1, a|stxb [r1+0], r7|stxdw [r10-8], r7|exit")
	job := api.Job{Context: []byte{1, 2, 3}, Fuel: 400, Draws: []uint64{10, 20, 30, 40}, Contents: []api.Contents{
		contents("h", entry("x", "abc", 1)), contents("a", entry("\x01\x00\x00\x00", "12345", 1)),
	}}
	return im, job
}

// TestInputsAreLeft: R4. What is handed in is not changed, its spare room neither.
func TestInputsAreLeft(t *testing.T) {
	im, job := busy(t)
	im, job = roomyImage(im), roomyJob(job)
	bare := made(t, im, job)
	for range 30 {
		bare.Step()
	}
	f := roomyFrozen(frozen(t, bare))
	given := []any{im, job, f}
	var ahead [][]any
	for _, v := range given {
		ahead = append(ahead, all(reflect.ValueOf(v)))
	}
	ran(t, im, job)
	finish(t, made(t, im, job))
	m := thawed(t, im, f)
	frozen(t, m)
	m.Peek(1<<32, 3)
	finish(t, m)
	wrong := job
	wrong.Contents = append(roomyContents(job.Contents), contents("none"))
	New(im, wrong)
	bad := f
	bad.Fuel = -1
	Thaw(im, bad)
	for k, v := range given {
		if !reflect.DeepEqual(all(reflect.ValueOf(v)), ahead[k]) {
			t.Errorf("R4: %T was changed", v)
		}
	}
}

// TestInputsAreNotKept: P22.10. Image, job and state may be written over.
func TestInputsAreNotKept(t *testing.T) {
	im, job := busy(t)
	want := ran(t, im, job)
	if want.Kind != api.Returned {
		t.Fatalf("another run than was meant: %+v", want)
	}
	for _, steps := range []int{0, 1, 11, 13, 17, 50, 400} {
		ownIm, ownJob := roomyImage(im), roomyJob(job)
		m := made(t, ownIm, ownJob)
		spoil(reflect.ValueOf(ownIm))
		spoil(reflect.ValueOf(ownJob))
		for range steps {
			m.Step()
		}
		f := roomyFrozen(frozen(t, m))
		ownIm = roomyImage(im)
		w := thawed(t, ownIm, f)
		was := frozen(t, w)
		spoil(reflect.ValueOf(ownIm))
		spoil(reflect.ValueOf(f))
		if now := frozen(t, w); !sameFrozen(now, was) {
			t.Errorf("P22.10: thawed behind %d steps, the state written over: %s, want %s", steps, short(now), short(was))
		}
		for _, m := range []*Machine{m, w} {
			if o, _ := finish(t, m); !sameOutcome(o, want) {
				t.Errorf("P22.10: behind %d steps, with all written over: %+v, want %+v", steps, o, want)
			}
		}
	}
}

// TestAnswersAreNew: R4. Whoever writes into what is handed out changes nothing else.
func TestAnswersAreNew(t *testing.T) {
	im, job := busy(t)
	want := ran(t, im, job)
	for _, steps := range []int{0, 1, 12, 16, 40, 400} {
		m, other := made(t, im, job), made(t, im, job)
		for range steps {
			m.Step()
			other.Step()
		}
		f := frozen(t, m)
		was := copyFrozen(f)
		kept := frozen(t, m)
		peeked, _ := m.Peek(1<<32, 3)
		w := thawed(t, im, f)
		spoil(reflect.ValueOf(f))
		spoil(reflect.ValueOf(peeked))
		for what, m := range map[string]*Machine{"the machine": m, "another one": other, "one that was thawed of it": w} {
			if g := frozen(t, m); !sameFrozen(g, was) {
				t.Errorf("R4: behind %d steps, what was handed out written over: %s: %s, want %s", steps, what, short(g), short(was))
			}
		}
		if !sameFrozen(kept, was) {
			t.Errorf("R4: what was handed out ahead: %s, want %s", short(kept), short(was))
		}
		first, _ := finish(t, m)
		second, _, _ := m.Step()
		spoil(reflect.ValueOf(first))
		third, _, _ := m.Step()
		if !sameOutcome(second, want) || !sameOutcome(third, want) {
			t.Errorf("R4: an outcome told again: %+v, %+v, want %+v", second, third, want)
		}
		if o, _ := finish(t, other); !sameOutcome(o, want) {
			t.Errorf("P22.10: another machine: %+v, want %+v", o, want)
		}
	}
}

// TestListsShareNothing: R4. No two lists of one answer share memory, so that each may be appended to.
func TestListsShareNothing(t *testing.T) {
	im, job := busy(t)
	m := made(t, im, job)
	for range 12 {
		m.Step()
	}
	f := frozen(t, m)
	if len(f.Frames) != 2 {
		t.Fatalf("%d frames, want 2", len(f.Frames))
	}
	was := copyFrozen(f)
	appended(&f.Context, 1)
	appended(&f.Draws, 1)
	appended(&f.Outcome.Context, 1)
	appended(&f.Outcome.Tables, api.Contents{})
	for k := range f.Frames {
		appended(&f.Frames[k].Regs, 1)
		appended(&f.Frames[k].Bytes, 1)
	}
	for k := range f.Tables {
		appended(&f.Tables[k].Data, 1)
	}
	for k := range f.Entries {
		appended(&f.Entries[k].Entries, api.Entry{Place: 9})
		for n := range f.Entries[k].Entries {
			appended(&f.Entries[k].Entries[n].Key, 1)
			appended(&f.Entries[k].Entries[n].Value, 1)
		}
	}
	if !sameFrozen(f, was) || !sameFrozen(frozen(t, m), was) {
		t.Errorf("R4: appended to: %s, want %s", short(f), short(was))
	}
	o, _ := finish(t, m)
	want := ran(t, im, job)
	appended(&o.Context, 1)
	for k := range o.Tables {
		appended(&o.Tables[k].Entries, api.Entry{Place: 9})
		for n := range o.Tables[k].Entries {
			appended(&o.Tables[k].Entries[n].Key, 1)
			appended(&o.Tables[k].Entries[n].Value, 1)
		}
	}
	if again, _, _ := m.Step(); !sameOutcome(o, want) || !sameOutcome(again, want) {
		t.Errorf("R4: appended to: %+v and %+v, want %+v", o, again, want)
	}
}

// appended puts an item behind a list, where its spare room is.
func appended[E any](list *[]E, item E) {
	_ = append(*list, item)
}

// TestSideBySide: P22.10. Two machines of one image and job, and one that is thawed of the other's state, go their own ways.
func TestSideBySide(t *testing.T) {
	im, job := busy(t)
	a, b := made(t, im, job), made(t, im, job)
	for range 20 {
		a.Step()
	}
	f := frozen(t, a)
	w := thawed(t, im, f)
	finish(t, a)
	if g := frozen(t, w); !sameFrozen(g, f) {
		t.Errorf("P22.10: a machine that was thawed of another one's state: %s, want %s", short(g), short(f))
	}
	begin, _, _ := plainNew(im, job)
	if g := frozen(t, b); !sameFrozen(g, begin) {
		t.Errorf("P22.10: another machine: %s", short(g))
	}
	x, _ := finish(t, w)
	y, _ := finish(t, b)
	if want := ran(t, im, job); !sameOutcome(x, want) || !sameOutcome(y, want) {
		t.Errorf("P22.10: %+v and %+v, want %+v", x, y, want)
	}
}
