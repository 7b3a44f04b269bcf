package model

import (
	"slices"
	"testing"

	"lockstitch/api"
	"lockstitch/check"
)

// wantAsChapter holds each step, and a run with each fuel up to most, against the second reading. The answer is how the run with the most of it ended, and which operations were done.
func wantAsChapter(t *testing.T, p api.Prog, most int) (api.Errno, map[uint8]int) {
	t.Helper()
	s, want, ops := State{}, newSecond(), map[uint8]int{}
	for steps := range most + 1 {
		if e := want.next(p); e != api.OK || want.at() == len(p.Code) {
			wantStep(t, p, s, s, e == api.OK, e)
			break
		}
		out, e, done := runByChapter(p, steps)
		if e != api.ErrFuel || done != steps {
			t.Fatalf("the second reading does not hold with itself: %d, %d", e, done)
		}
		wantRun(t, p, steps, out, e)
		ops[p.Code[want.at()].Op]++
		want.step(p)
		s = wantStep(t, p, s, want.state(), false, api.OK)
		if t.Failed() {
			t.FailNow()
		}
	}
	out, e, steps := runByChapter(p, most)
	for _, fuel := range []int{steps, steps + 1, most, most + 1} {
		if e != api.ErrFuel || fuel == most {
			wantRun(t, p, fuel, out, e)
		}
	}
	return e, ops
}

// P6.1 and P6.2: of many programs.
func TestManyPrograms(t *testing.T) {
	ends, done := map[api.Errno]int{}, map[uint8]int{}
	for seed := range 4000 {
		e, ops := wantAsChapter(t, some(seed), 40)
		ends[e]++
		for op, many := range ops {
			done[op] += many
		}
	}
	// So that the programs are not all of one sort.
	for _, e := range []api.Errno{api.OK, api.ErrZero, api.ErrFuel} {
		if ends[e] < 100 {
			t.Errorf("how the runs end: %v", ends)
		}
	}
	for op := uint8(1); op <= 15; op++ {
		if done[op] < 100 {
			t.Errorf("which operations were done: %v", done)
		}
	}
}

// wantFurther asks for P6.3, with each fuel up to most.
func wantFurther(t *testing.T, p api.Prog, most int) {
	t.Helper()
	printed, how := Run(p, 0)
	for fuel := 1; fuel <= most; fuel++ {
		out, e := Run(p, fuel)
		if len(out) < len(printed) || !slices.Equal(printed, out[:len(printed)]) {
			t.Errorf("with %d it prints %v, with one less %v: %v", fuel, out, printed, p.Code)
		}
		if how != api.ErrFuel && (e != how || len(out) != len(printed)) {
			t.Errorf("with %d it prints %v, and ends with %d, behind an end with %v, %d: %v", fuel, out, e, printed, how, p.Code)
		}
		if len(out) > len(printed)+1 {
			t.Errorf("a single step printed %v behind %v: %v", out, printed, p.Code)
		}
		printed, how = out, e
	}
}

// P6.3.
func TestFurther(t *testing.T) {
	for seed := range 2000 {
		wantFurther(t, some(seed), 60)
	}
	for _, text := range []string{each, listOf(3), "print 0\njump 0", "print 0\nloadi 0 0 0\nprint 1", "print 0\nadd 0 0 1\nzero 0 0"} {
		wantFurther(t, lines(t, text), 300)
	}
}

// P6.3: behind the end, and behind a nothing that was followed, nothing changes.
func TestBehindTheEnd(t *testing.T) {
	for seed := range 1000 {
		p := some(seed)
		s := State{}
		for range 60 {
			next, done, e := Step(p, s)
			if done || e != api.OK {
				for range 3 {
					next = wantStep(t, p, next, s, done, e)
				}
				out, how := Run(p, s.Steps)
				if !slices.Equal(out, s.Out) || how != e {
					t.Errorf("Run prints %v, and ends with %d; by Step it is %v, %d: %v", out, how, s.Out, e, p.Code)
				}
				break
			}
			s = next
		}
	}
}

// codeOf takes five bytes for an instruction.
func codeOf(b []byte) []api.Ins {
	var code []api.Ins
	for c := range slices.Chunk(b, 5) {
		if len(c) == 5 {
			code = append(code, api.Ins{Op: c[0], A: c[1], B: c[2], C: c[3], N: int64(int8(c[4]))})
		}
	}
	return code
}

func FuzzRun(f *testing.F) {
	f.Add("i1", "0", "011", "1", []byte{5, 0, 0, 0, 0, 9, 0, 1, 0, 0, 5, 1, 0, 0, 0, 11, 0, 1, 0, 1, 10, 2, 0, 0, 1, 15, 3, 1, 2, 0, 14, 3, 0, 0, 0, 3, 0, 0, 0, 2})
	f.Add("i", "i", "01", "", []byte{1, 0, 0, 0, 5, 1, 1, 0, 0, 255, 14, 0, 0, 0, 0, 2, 0, 0, 1, 0, 4, 0, 0, 0, 6, 3, 0, 0, 0, 2})
	f.Add("i", "i8", "0", "0", []byte{14, 0, 0, 0, 0})
	f.Fuzz(func(t *testing.T, a, b, locals, globs string, code []byte) {
		p := api.Prog{Types: []string{a, b}, Locals: locals, Globs: globs, Code: codeOf(code)}
		if _, e := check.Check(p); e != api.OK {
			wantRun(t, p, 10, nil, api.ErrArg)
			wantStep(t, p, State{}, State{}, false, api.ErrArg)
			return
		}
		wantAsChapter(t, p, 50)
		wantFurther(t, p, 50)
	})
}
