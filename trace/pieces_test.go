package trace

import (
	"bytes"
	"fmt"
	"math/rand"
	"slices"
	"strings"
	"testing"

	"spindle/api"
	"spindle/machine"
)

// maker makes images and jobs of chance.
type maker struct{ *rand.Rand }

// one gives one of a list.
func one[E any](c maker, list ...E) E { return list[c.Intn(len(list))] }

// part gives some lines of a function; there are so many functions.
func (c maker) part(functions int) string {
	return one(c,
		fmt.Sprintf("mov r0, %d", c.Intn(5)),
		fmt.Sprintf("add r%d, %d", c.Intn(10), c.Intn(9)-4),
		fmt.Sprintf("lddw r%d, %d", c.Intn(10), c.Uint64()),
		fmt.Sprintf("stxdw [r10-%d], r%d", 8*(1+c.Intn(64)), c.Intn(11)),
		fmt.Sprintf("ldxh r%d, [r10-%d]", c.Intn(6), 2+c.Intn(510)),
		fmt.Sprintf("stb [r6+%d], %d", c.Intn(9), c.Intn(99)),
		fmt.Sprintf("afadd [r10-8], r%d", c.Intn(10)),
		fmt.Sprintf("jeq r%d, %d, L%d", c.Intn(10), c.Intn(3), c.Intn(4)),
		fmt.Sprintf("jgt r%d, r%d, L%d", c.Intn(10), c.Intn(11), c.Intn(4)),
		fmt.Sprintf("ja L%d", c.Intn(4)),
		fmt.Sprintf("call f%d", c.Intn(functions)),
		fmt.Sprintf("call f%d", c.Intn(functions)),
		"call 3|add r7, r0",
		c.helping(),
		c.helping(),
		c.helping(),
		fmt.Sprintf("ldmap r7, t%d|stxw [r7+%d], r%d", c.Intn(3), c.Intn(14), c.Intn(10)),
	)
}

// helping gives a call of a helper with its arguments: the key is one of few, on the frame.
func (c maker) helping() string {
	return fmt.Sprintf("stw [r10-4], %d|ldmap r1, t%d|mov r2, r10|add r2, -4|mov r3, r10|add r3, %d|mov r4, %d|call %d",
		c.Intn(4), c.Intn(3), -24-8*c.Intn(3), one(c, 0, 0, 0, 1, 2, 3), one(c, 1, 2, 2, 2, 2, 4))
}

// image gives one of up to three functions; at times an instruction of it is spoiled.
func (c maker) image(t *testing.T) api.Image {
	functions := 1 + c.Intn(3)
	text := ".map t0 hash 1 3 2|.map t1 array 4 5 3|.map t2 hash 4 9 3|.global m|.func m|mov r6, r1|call f0|exit|"
	for f := range functions {
		text += fmt.Sprintf(".func f%d|", f)
		labels := c.Perm(6)[:4]
		for k := range 6 {
			for n, at := range labels {
				if at == k {
					text += fmt.Sprintf("L%d:", n)
				}
			}
			text += c.part(functions) + "|"
		}
		text += one(c, "exit|", "exit|", "exit|", "mov r0, 1|")
	}
	im := linked(t, strings.TrimSuffix(text, "|"))
	if c.Intn(3) == 0 {
		im.Text[c.Intn(len(im.Text))] = one(c, api.Insn{Op: 0xff}, api.Insn{Op: 0xb7, Dst: 10}, api.Insn{Op: 0x85, Imm: 9}, api.Insn{Op: 0x85, Src: 1, Imm: 99}, api.Insn{Op: 0x18, Dst: 1, Src: 1, Imm: 3}, api.Insn{Op: 0x05, Off: -99})
	}
	return im
}

func (c maker) job() api.Job {
	job := api.Job{Context: make([]byte, one(c, 0, 4, 9)), Fuel: one(c, 0, 1, 10, 20, 40, 60)}
	c.Read(job.Context)
	for range c.Intn(3) {
		job.Draws = append(job.Draws, c.Uint64())
	}
	if c.Intn(2) == 0 {
		job.Contents = []api.Contents{{Table: "t2", Entries: []api.Entry{{Key: []byte{2, 0, 0, 0}, Value: []byte("123456789"), Place: c.Intn(3)}}}}
	}
	return job
}

// course is a run in one piece, on the machine: how it stands at the beginning and behind each step.
type course struct {
	im     api.Image
	bytes  [][]byte
	places []api.Place
	end    api.Outcome
}

func courseOf(t *testing.T, im api.Image, job api.Job) course {
	t.Helper()
	c := course{im: im}
	m, _, e := machine.New(im, job)
	if e != api.OK {
		t.Fatalf("P22.1: New of a job that may be: %d", e)
	}
	for over := false; ; {
		f, _ := m.Freeze()
		at, _ := m.At()
		c.bytes, c.places = append(c.bytes, plainBytes(t, im, f)), append(c.places, at)
		if over {
			return c
		}
		c.end, over, _ = m.Step()
	}
}

// run tells what Run(n) is to answer behind so many steps with these breakpoints, and behind how many the run stands then.
func (c course) run(at, n int, breaks []api.Place) (int, int) {
	last := len(c.bytes) - 1
	made := 0
	for made < n && at < last {
		at++
		if at < last || c.end.Kind != api.OutOfFuel {
			made++
		}
		if at < last && slices.Contains(breaks, c.places[at]) {
			break
		}
	}
	return made, at
}

// follow makes a run in pieces beside its course, with breakpoints, looks, and Keep and Read between them, as chance has it.
func (c course) follow(t *testing.T, chance maker, job api.Job) {
	t.Helper()
	r := made(t, c.im, job)
	var breaks []api.Place
	longest := 1 + chance.Intn(12)
	for at, last := 0, len(c.bytes)-1; ; {
		if b := kept(t, r); !bytes.Equal(b, c.bytes[at]) {
			t.Fatalf("P25.8: behind %d steps: %x, want %x; %+v", at, b, c.bytes[at], c.im)
		}
		if p := standsAt(t, r); p != c.places[at] {
			t.Fatalf("P25.5: behind %d steps: %v, want %v", at, p, c.places[at])
		}
		if chance.Intn(3) == 0 {
			r, breaks = again(t, c.im, kept(t, r)), nil
		}
		if chance.Intn(3) == 0 {
			breaks = chance.turnBreak(t, r, c, breaks)
		}
		n := chance.Intn(longest+1) - chance.Intn(2)
		made, to := c.run(at, n, breaks)
		o := nothing()
		if to == last {
			o = c.end
		}
		k, have, over, e := r.Run(n)
		if k != made || over != (to == last) || !alike(have, o) || e != api.OK {
			t.Fatalf("P25.2: behind %d steps, with breakpoints at %v: Run(%d) = %d, %+v, %v, %d, want %d, %+v", at, breaks, n, k, have, over, e, made, o)
		}
		if at == last {
			return
		}
		at = to
	}
}

// turnBreak puts a breakpoint at one of the places to which the run comes, or takes one away.
func (c maker) turnBreak(t *testing.T, r *Run, along course, breaks []api.Place) []api.Place {
	t.Helper()
	p := one(c, along.places...)
	there := slices.Contains(breaks, p)
	if c.Intn(3) == 0 {
		want := api.ErrTraceForm
		if there {
			want = api.OK
		}
		wantUnbreak(t, r, p.Func, p.At, want)
		return slices.DeleteFunc(breaks, func(q api.Place) bool { return p == q })
	}
	if p.At == along.im.Funcs[p.Func].Count {
		wantBreak(t, r, p.Func, p.At, api.ErrTraceForm)
		return breaks
	}
	wantBreak(t, r, p.Func, p.At, api.OK)
	if there {
		return breaks
	}
	return append(breaks, p)
}

// TestPieces: P25.8, runs of chance in pieces of chance.
func TestPieces(t *testing.T) {
	t.Parallel()
	chance := maker{rand.New(rand.NewSource(11))}
	kinds, codes := map[int]int{}, map[api.Errno]int{}
	for range 1500 {
		im, job := chance.image(t), chance.job()
		c := courseOf(t, im, job)
		kinds[c.end.Kind]++
		codes[c.end.Code]++
		for range 3 {
			c.follow(t, chance, job)
		}
	}
	if len(kinds) != 3 || kinds[api.Returned] < 100 || kinds[api.Faulted] < 100 || kinds[api.OutOfFuel] < 100 || len(codes) != 9 {
		t.Errorf("too few runs of each kind: %v, %v", kinds, codes)
	}
}

// TestEveryCut: P25.8, runs of chance cut once, at each step, and kept there.
func TestEveryCut(t *testing.T) {
	t.Parallel()
	chance := maker{rand.New(rand.NewSource(12))}
	for range 300 {
		im, job := chance.image(t), chance.job()
		c := courseOf(t, im, job)
		last := len(c.bytes) - 1
		all, _ := c.run(0, 100, nil)
		for at := range last + 1 {
			r := again(t, im, c.bytes[at])
			want := max(0, all-at)
			wantRun(t, "what was kept", r, 100, want, c.end, true)
			if b := kept(t, r); !bytes.Equal(b, c.bytes[last]) {
				t.Fatalf("P25.8: cut behind %d steps: %x, want %x", at, b, c.bytes[last])
			}
		}
	}
}
