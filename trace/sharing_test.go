package trace

import (
	"bytes"
	"reflect"
	"slices"
	"sync"
	"testing"

	"spindle/api"
)

// roomy gives a list with the same items, and spare room behind them that is filled.
func roomy[E any](list []E, filler E) []E {
	return append(slices.Clone(list), filler, filler, filler)[:len(list)]
}

func roomyImage(im api.Image) api.Image {
	im.Text, im.Funcs, im.Tables = roomy(im.Text, api.Insn{Op: 99}), roomy(im.Funcs, api.ImgFunc{Name: "room"}), roomy(im.Tables, api.TableDef{Name: "room"})
	return im
}

// roomyJob: of lists of lists each.
func roomyJob(job api.Job) api.Job {
	job.Context, job.Draws, job.Contents = roomy(job.Context, 0xee), roomy(job.Draws, 0xee), roomy(job.Contents, api.Contents{Table: "room"})
	for k, c := range job.Contents {
		es := roomy(c.Entries, api.Entry{Place: 99})
		for n, e := range es {
			es[n].Key, es[n].Value = roomy(e.Key, 0xee), roomy(e.Value, 0xee)
		}
		job.Contents[k].Entries = es
	}
	return job
}

// all gives each list that stands in a value, with its spare room, as one list of any kind.
func all(v reflect.Value) []any {
	var lists []any
	switch v.Kind() {
	case reflect.Struct:
		for k := range v.NumField() {
			lists = append(lists, all(v.Field(k))...)
		}
	case reflect.Slice:
		own := reflect.MakeSlice(v.Type(), v.Cap(), v.Cap())
		reflect.Copy(own, v.Slice(0, v.Cap()))
		lists = append(lists, own.Interface())
		for k := range v.Len() {
			lists = append(lists, all(v.Index(k))...)
		}
	}
	return lists
}

// spoil writes over each list that stands in a value, the inner ones first, and its spare room.
func spoil(v reflect.Value) {
	switch v.Kind() {
	case reflect.Struct:
		for k := range v.NumField() {
			spoil(v.Field(k))
		}
	case reflect.Slice:
		for k := range v.Len() {
			spoil(v.Index(k))
		}
		whole := v.Slice(0, v.Cap())
		for k := range whole.Len() {
			switch item := whole.Index(k); item.Kind() {
			case reflect.Uint8, reflect.Uint64:
				item.SetUint(item.Uint() ^ 0x5a)
			default:
				item.SetZero()
			}
		}
	}
}

// TestInputsAreLeft: R4. What is handed in is not changed, its spare room neither.
func TestInputsAreLeft(t *testing.T) {
	im, job := busy(t)
	im, job = roomyImage(im), roomyJob(job)
	bare := made(t, im, job)
	bare.Run(30)
	b := roomy(kept(t, bare), 0xee)
	wrong := append(roomy(b, 0xee), 0)
	given := []any{im, job, b, wrong}
	var ahead [][]any
	for _, v := range given {
		ahead = append(ahead, all(reflect.ValueOf(v)))
	}
	for _, r := range []*Run{made(t, im, job), again(t, im, b)} {
		r.Break(0, 3)
		r.Run(10)
		r.Unbreak(0, 3)
		r.Peek(1<<32, 3)
		kept(t, r)
		r.Run(1000)
		kept(t, r)
	}
	Read(im, wrong)
	Read(im, b[:9])
	for k, v := range given {
		if !reflect.DeepEqual(all(reflect.ValueOf(v)), ahead[k]) {
			t.Errorf("R4: %T was changed", v)
		}
	}
}

// TestInputsAreNotKept: P25.9. Image, job and bytes may be written over.
func TestInputsAreNotKept(t *testing.T) {
	im, job := busy(t)
	want := courseOf(t, im, job)
	last := len(want.bytes) - 1
	for _, steps := range []int{0, 1, 11, 13, 17, 50, last} {
		ownIm, ownJob := roomyImage(im), roomyJob(job)
		r := made(t, ownIm, ownJob)
		spoil(reflect.ValueOf(ownIm))
		spoil(reflect.ValueOf(ownJob))
		wantBreak(t, r, 1, 2, api.OK)
		wantUnbreak(t, r, 1, 2, api.OK)
		r.Run(steps)
		ownIm = roomyImage(im)
		b := roomy(kept(t, r), 0xee)
		w := again(t, ownIm, b)
		spoil(reflect.ValueOf(ownIm))
		spoil(reflect.ValueOf(b))
		wantBreak(t, w, 1, 3, api.OK)
		wantUnbreak(t, w, 1, 3, api.OK)
		for what, r := range map[string]*Run{"a new run": r, "one that was read": w} {
			if b := kept(t, r); !bytes.Equal(b, want.bytes[steps]) {
				t.Errorf("P25.9: %s behind %d steps, with all written over: %x, want %x", what, steps, b, want.bytes[steps])
			}
			wantRun(t, what, r, 1000, last-steps, want.end, true)
			if b := kept(t, r); !bytes.Equal(b, want.bytes[last]) {
				t.Errorf("P25.9: %s at its end, with all written over: %x, want %x", what, b, want.bytes[last])
			}
		}
	}
}

// TestAnswersAreNew: R4. Whoever writes into what is handed out changes nothing else.
func TestAnswersAreNew(t *testing.T) {
	im, job := busy(t)
	want := courseOf(t, im, job)
	for _, steps := range []int{0, 12, 40, len(want.bytes) - 1} {
		r := made(t, im, job)
		r.Run(steps)
		first, second := kept(t, r), kept(t, r)
		peeked, _ := r.Peek(1<<32, 3)
		w := again(t, im, first)
		for _, b := range [][]byte{first, peeked} {
			_ = append(b, 0x5a)
			spoil(reflect.ValueOf(b))
		}
		for what, b := range map[string][]byte{"what was handed out ahead": second, "what is handed out later": kept(t, r), "another run's": kept(t, w)} {
			if !bytes.Equal(b, want.bytes[steps]) {
				t.Errorf("R4: %s behind %d steps: %x, want %x", what, steps, b, want.bytes[steps])
			}
		}
		_, o, _, _ := r.Run(1000)
		spoil(reflect.ValueOf(o))
		wantRun(t, "an outcome told again", r, 1, 0, want.end, true)
	}
}

// TestApart: P25.9. Two runs of one image and job, and one that was read of the other's bytes, go their own ways.
func TestApart(t *testing.T) {
	im, job := busy(t)
	want := courseOf(t, im, job)
	last := len(want.bytes) - 1
	a, b := made(t, im, job), made(t, im, job)
	a.Run(20)
	w := again(t, im, kept(t, a))
	wantBreak(t, a, 1, 1, api.OK)
	wantUnbreak(t, b, 1, 1, api.ErrTraceForm)
	wantUnbreak(t, w, 1, 1, api.ErrTraceForm)
	for range last {
		a.Run(1000)
	}
	for what, c := range map[string]struct {
		r     *Run
		steps int
	}{"another run": {b, 0}, "what was read": {w, 20}, "the run itself": {a, last}} {
		if have := kept(t, c.r); !bytes.Equal(have, want.bytes[c.steps]) {
			t.Errorf("P25.9: %s: %x, want %x", what, have, want.bytes[c.steps])
		}
		wantRun(t, what, c.r, 1000, last-c.steps, want.end, true)
	}
}

// TestSideBySide: runs have nothing in common, so that they may be made at one time.
func TestSideBySide(t *testing.T) {
	im, job := busy(t)
	want := courseOf(t, im, job)
	outcomes := make([]api.Outcome, 16)
	var group sync.WaitGroup
	for k := range outcomes {
		group.Go(func() {
			r, _, _ := New(im, job)
			r.Break(1, k%3)
			for over := false; !over; {
				_, outcomes[k], over, _ = r.Run(k + 1)
				b, _ := r.Keep()
				if k%2 == 0 {
					r, _, _ = Read(im, b)
				}
			}
		})
	}
	group.Wait()
	for _, o := range outcomes {
		if !alike(o, want.end) {
			t.Errorf("P25.9: %+v, want %+v", o, want.end)
		}
	}
}
