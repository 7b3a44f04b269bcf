package plan

import (
	"testing"

	"lockstitch/api"
	"lockstitch/check"
	"lockstitch/kind"
	"lockstitch/model"
)

// shown is what a run has shown: its steps, how many objects it made of a place that is out of the heap, and of one that is made whole, and how many stores it did that need no barrier; and how many of the others.
type shown struct {
	steps, stack, raw, plain   int
	notStack, notRaw, notPlain int
}

func (s *shown) add(one shown) {
	s.steps += one.steps
	s.stack += one.stack
	s.raw += one.raw
	s.plain += one.plain
	s.notStack += one.notStack
	s.notRaw += one.notRaw
	s.notPlain += one.notPlain
}

// run is a program's run: of each object the place at which it was made, its type, and whether that was behind the last safepoint.
type run struct {
	p     api.Prog
	best  []Fact
	made  []int
	types []int
	fresh []bool
	shown shown
}

// wantNew asks that a place that is out of the heap makes one object at most.
func (r *run) wantNew(t *testing.T, at int) {
	t.Helper()
	for _, was := range r.made {
		if was == at && r.best[at].Stack {
			t.Fatalf("at %d a second object is made out of the heap: %q %v", at, r.p.Types, r.p.Code)
		}
	}
	r.made = append(r.made, at)
	r.types = append(r.types, check.Local(r.p, r.p.Code[at].A))
	r.fresh = append(r.fresh, true)
	r.shown.stack += count(r.best[at].Stack)
	r.shown.notStack += count(!r.best[at].Stack)
	r.shown.raw += count(r.best[at].Raw)
	r.shown.notRaw += count(!r.best[at].Raw)
}

// wantHeap asks that no field and no global has an object that is out of the heap.
func (r *run) wantHeap(t *testing.T, s model.State) {
	t.Helper()
	all := s.G[:]
	for k, fields := range s.Objs {
		for n, field := range fields {
			if kind.Mask(r.p.Types, r.types[k])>>n&1 == 1 {
				all = append(all, int(field))
			}
		}
	}
	for _, object := range all {
		if object != 0 && r.best[r.made[object-1]].Stack {
			t.Fatalf("what was made at %d is stored: %q %v", r.made[object-1], r.p.Types, r.p.Code)
		}
	}
}

// wantStore asks that a store without a barrier, that was done, is into what was made behind the last safepoint.
func (r *run) wantStore(t *testing.T, at int, s model.State) {
	t.Helper()
	isFresh := r.fresh[s.P[r.p.Code[at].A]-1]
	if r.best[at].Plain && !isFresh {
		t.Fatalf("at %d a store is into an old object: %q %v", at, r.p.Types, r.p.Code)
	}
	r.shown.plain += count(r.best[at].Plain)
	r.shown.notPlain += count(!isFresh)
}

// outOf is a run's output from a state on, and its error.
func outOf(p api.Prog, s model.State, most int) ([]int64, api.Errno) {
	for range most {
		next, done, e := model.Step(p, s)
		if done || e != api.OK {
			return s.Out, e
		}
		s = next
	}
	return s.Out, api.ErrFuel
}

// wantRaw asks that a run does not change by what stands in the fields of an object that is not made nought.
func (r *run) wantRaw(t *testing.T, at int, s model.State) {
	t.Helper()
	other := s
	other.Objs = append([][]int64(nil), s.Objs...)
	junk := make([]int64, len(s.Objs[len(s.Objs)-1]))
	for k := range junk {
		junk[k] = int64(1 + k%len(s.Objs))
	}
	other.Objs[len(s.Objs)-1] = junk
	out, e := outOf(r.p, s, 60)
	otherOut, otherE := outOf(r.p, other, 60)
	if e != otherE || len(out) != len(otherOut) {
		t.Fatalf("what the New at %d made is read ahead of its writes: %q %v", at, r.p.Types, r.p.Code)
	}
	for k := range out {
		if out[k] != otherOut[k] {
			t.Fatalf("what the New at %d made is read ahead of its writes: %q %v", at, r.p.Types, r.p.Code)
		}
	}
}

// wantSurely asks it of each step of a run.
func wantSurely(t *testing.T, p api.Prog, most int) shown {
	t.Helper()
	r := &run{p: p, best: best(t, p)}
	var s model.State
	for range most {
		at := s.At
		next, done, e := model.Step(p, s)
		if done || e != api.OK {
			break
		}
		switch {
		case isSafe(p, at):
			clear(r.fresh)
			if p.Code[at].Op == api.New {
				r.wantNew(t, at)
			}
		case p.Code[at].Op == api.StoreP:
			r.wantStore(t, at, s)
		}
		if r.best[at].Raw {
			r.wantRaw(t, at, next)
		}
		s = next
		r.shown.steps++
		r.wantHeap(t, s)
	}
	return r.shown
}

// P12.1 by what it is for: of runs of many programs, an object out of the heap is the one of its place, and never stored; one that is not made nought is the same to the run; and a store without a barrier is into a new one.
func TestSurely(t *testing.T) {
	var saw shown
	for seed := range 6000 {
		saw.add(wantSurely(t, some(seed), 60))
	}
	// So that the runs are not all of one sort.
	if saw.steps < 80000 || saw.stack < 9000 || saw.notStack < 15000 || saw.raw < 1800 || saw.notRaw < 20000 || saw.plain < 4000 || saw.notPlain < 1200 {
		t.Errorf("%+v", saw)
	}
}

// P12.1 by what it is for: of runs of all short programs.
func TestSurelyInShortPrograms(t *testing.T) {
	for many := 1; many <= 3; many++ {
		var saw shown
		allShort(many, func(p api.Prog) { saw.add(wantSurely(t, p, 12)) })
		if saw.stack == 0 || saw.notStack == 0 != (many < 2) || saw.raw == 0 != (many < 3) || saw.plain == 0 != (many < 2) {
			t.Errorf("of %d instructions: %+v", many, saw)
		}
	}
}

// P12.1, the other way: where it is not said, a run can need it.
func TestNotSurely(t *testing.T) {
	// A second object of one place, while the first one is still held by another local.
	p := lines(t, "new 0\nsame 1 0 1\nprint 1\nmove 1 0\nzero 0 0\n")
	wantBest(t, p, "- - - - -")
	s := model.State{}
	for range 6 {
		s, _, _ = model.Step(p, s)
	}
	if s.P[0] != 2 || s.P[1] != 1 {
		t.Errorf("%v", s.P)
	}
	// A global that has it.
	p = lines(t, "new 0\nstoreg 0 0\n")
	wantBest(t, p, "- -")
	for s = (model.State{}); s.At < 2; {
		s, _, _ = model.Step(p, s)
	}
	if s.G[0] != 1 {
		t.Errorf("%v", s.G)
	}
	// A field that is read ahead of its write.
	p = read(t, number(), "new 0\nloadi 0 0 0\nprint 0\nstorei 0 0 0\n")
	wantBest(t, p, "s - - -")
	if out, e := model.Run(p, 10); e != api.OK || len(out) != 1 || out[0] != 0 {
		t.Errorf("%v, %d", out, e)
	}
	// A store into what was made ahead of a safepoint.
	p = lines(t, "new 0\nnew 1\nstorep 0 1 1\n")
	wantBest(t, p, "s - -")
	if saw := wantSurely(t, p, 10); saw.notPlain != 1 {
		t.Errorf("%+v", saw)
	}
}
