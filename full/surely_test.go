package full

import (
	"reflect"
	"testing"

	"lockstitch/api"
	"lockstitch/flow"
	"lockstitch/model"
)

// step is a step that a run has to do.
func step(t *testing.T, p api.Prog, s model.State) model.State {
	t.Helper()
	next, done, e := model.Step(p, s)
	if done || e != api.OK {
		t.Fatalf("at %d the run does not go on: %v, %d: %q %v", s.At, done, e, p.Types, p.Code)
	}
	return next
}

// wantWay asks for P10.3 behind a New that a run has done at a place, of which Full is true.
func wantWay(t *testing.T, p api.Prog, at int, s model.State) {
	t.Helper()
	// The same run, but that what was made is not made nought. It comes to the same when all is written.
	other := s
	other.Objs = append([][]int64(nil), s.Objs...)
	made := make([]int64, len(s.Objs[len(s.Objs)-1]))
	for k := range made {
		made[k] = -77 - int64(k)
	}
	other.Objs[len(s.Objs)-1] = made
	last := Last(p, at)
	if last <= at || last >= len(p.Code) {
		t.Fatalf("Last of %d is %d: %q %v", at, last, p.Types, p.Code)
	}
	for place := at + 1; place <= last; place++ {
		if s.At != place {
			t.Fatalf("behind the New at %d the run is at %d, and not at %d: %q %v", at, s.At, place, p.Types, p.Code)
		}
		op := p.Code[place].Op
		if flow.Safe(p, place) || op == api.LoadI || op == api.LoadP {
			t.Fatalf("behind the New at %d there is the operation %d, ahead of %d: %q %v", at, op, last, p.Types, p.Code)
		}
		s, other = step(t, p, s), step(t, p, other)
	}
	if !reflect.DeepEqual(s, other) {
		t.Fatalf("what the New at %d made is not written whole by %d: %v, %v: %q %v", at, last, s.Objs, other.Objs, p.Types, p.Code)
	}
}

// wantSurely asks it of each New that a run does, and tells how many of these there were, and how many others.
func wantSurely(t *testing.T, p api.Prog, most int) (is, isNot int) {
	t.Helper()
	var s model.State
	for range most {
		next, done, e := model.Step(p, s)
		if e == api.ErrArg {
			t.Fatalf("%q %v may not be run", p.Types, p.Code)
		}
		if done || e != api.OK {
			break
		}
		switch {
		case p.Code[s.At].Op != api.New:
		case Full(p, s.At):
			wantWay(t, p, s.At, next)
			is++
		default:
			isNot++
		}
		s = next
	}
	return is, isNot
}

// P10.3: of runs of many programs.
func TestSurely(t *testing.T) {
	is, isNot := 0, 0
	for seed := range 20000 {
		oneIs, oneIsNot := wantSurely(t, some(seed), 80)
		is += oneIs
		isNot += oneIsNot
	}
	// So that the runs are not all of one sort.
	if is < 5000 || isNot < 30000 {
		t.Errorf("%d objects were written whole, %d were not", is, isNot)
	}
}

// P10.3: of runs of all short programs.
func TestSurelyInShortPrograms(t *testing.T) {
	for many := 1; many <= 4; many++ {
		is := 0
		allShort(many, func(p api.Prog) {
			one, _ := wantSurely(t, p, 12)
			is += one
		})
		if is == 0 != (many < 3) {
			t.Errorf("of %d instructions %d objects are written whole", many, is)
		}
	}
}

// P10.3: a list is made in a loop, and each of its objects but the first one is written whole, though one comes to the midst of the writes from elsewhere, too.
func TestSurelyInALoop(t *testing.T) {
	p := read(t, of("i0"), "set 0 -5\nset 6 1\nnew 0\njump 6\nnew 0\nstorep 0 1 1\nmove 1 0\nstorei 0 0 0\nadd 0 0 6\nzero 0 11\njump 4\n")
	wantLasts(t, p, map[int]int{4: 7})
	if is, isNot := wantSurely(t, p, 300); is != 4 || isNot != 1 {
		t.Errorf("%d and %d", is, isNot)
	}
}

// P10.3: of the most instructions: the way from the first to the last one.
func TestSurelyOfTheMostInstructions(t *testing.T) {
	for _, between := range []api.Ins{{Op: api.Print}, {Op: api.Same, A: 1}, {Op: api.Nil, A: 1}, {Op: api.Move, A: 1}, {Op: api.StoreI}, {Op: api.Add}} {
		p := of("i0", repeat(between, api.Most)...)
		last := api.Most - 1
		p.Code[0] = api.Ins{Op: api.New}
		p.Code[1] = api.Ins{Op: api.StoreI}
		p.Code[last] = api.Ins{Op: api.StoreP, N: 1}
		wantRunnable(t, p)
		wantLast(t, p, 0, last)
		if is, isNot := wantSurely(t, p, 1000); is != 1 || isNot != 0 {
			t.Errorf("%v: %d and %d", between, is, isNot)
		}
	}
}

// P10.3, the other way: what ends it has to, as the run does not come to the write, or as it reads a field ahead of it.
func TestNotSurely(t *testing.T) {
	for _, c := range []struct {
		text string
		out  int64
	}{
		{"new 0\nzero 0 3\nstorei 0 0 1\nloadi 2 0 0\nprint 2\n", 0},
		{"new 0\nset 2 9\nloadi 2 0 0\nstorei 0 0 1\nprint 2\n", 0},
		{"new 0\nset 1 9\nmove 1 0\nmove 0 4\nnew 0\nstorei 0 0 1\nloadi 2 1 0\nprint 2\n", 0},
		{"new 0\nset 1 9\nstoreg 0 0\nnew 0\nstorei 0 0 1\nloadg 0 0\nloadi 2 0 0\nprint 2\n", 0},
	} {
		p := read(t, api.Prog{Types: []string{"i"}, Locals: "00000000", Globs: "0"}, c.text)
		wantLast(t, p, 0, -1)
		out, e := model.Run(p, 100)
		if e != api.OK || len(out) != 1 || out[0] != c.out {
			t.Errorf("%v, %d: %q", out, e, c.text)
		}
	}
}
