package leak

import (
	"testing"

	"lockstitch/api"
	"lockstitch/check"
	"lockstitch/kind"
	"lockstitch/model"
)

// shown is what a run has shown: its steps, how many fields and globals had an object that leaks, how many locals had one that does not, by a Move too, and how many had one that leaks where May says no.
type shown struct{ steps, stored, held, moved, loaded int }

func (s *shown) add(one shown) {
	s.steps += one.steps
	s.stored += one.stored
	s.held += one.held
	s.moved += one.moved
	s.loaded += one.loaded
}

// run is a program's run: of each object the place at which it was made.
type run struct {
	p     api.Prog
	may   [][]bool
	leaks []bool
	made  []int
	types []int
	shown shown
}

func begin(p api.Prog) *run {
	r := &run{p: p, may: May(p), leaks: make([]bool, len(p.Code))}
	for at := range p.Code {
		r.leaks[at] = Leaks(p, at)
	}
	return r
}

// wantStored asks of what a field or a global has.
func (r *run) wantStored(t *testing.T, object int) {
	t.Helper()
	if object == 0 {
		return
	}
	if at := r.made[object-1]; !r.leaks[at] {
		t.Fatalf("what was made at %d is stored, and does not leak: %q %v", at, r.p.Types, r.p.Code)
	}
	r.shown.stored++
}

// wantLocal asks of what p[a] has.
func (r *run) wantLocal(t *testing.T, a, object int) {
	t.Helper()
	if object == 0 {
		return
	}
	at := r.made[object-1]
	switch is := r.may[a][at]; {
	case r.leaks[at] && !is:
		r.shown.loaded++
	case r.leaks[at]:
	case !is:
		t.Fatalf("p[%d] has what was made at %d, which May does not say: %q %v", a, at, r.p.Types, r.p.Code)
	default:
		r.shown.held++
		if int(r.p.Code[at].A) != a {
			r.shown.moved++
		}
	}
}

// wantState asks of all that a run has at a place.
func (r *run) wantState(t *testing.T, s model.State) {
	t.Helper()
	for a, object := range s.P {
		if a < len(r.p.Locals) {
			r.wantLocal(t, a, object)
		}
	}
	for _, object := range s.G {
		r.wantStored(t, object)
	}
	for k, fields := range s.Objs {
		for n, field := range fields {
			if kind.Mask(r.p.Types, r.types[k])>>n&1 == 1 {
				r.wantStored(t, int(field))
			}
		}
	}
}

// wantSurely asks for P11.3 at each step of a run.
func wantSurely(t *testing.T, p api.Prog, most int) shown {
	t.Helper()
	r := begin(p)
	var s model.State
	for range most {
		next, done, e := model.Step(p, s)
		if e == api.ErrArg {
			t.Fatalf("%q %v may not be run", p.Types, p.Code)
		}
		if done || e != api.OK {
			break
		}
		if i := p.Code[s.At]; i.Op == api.New {
			r.made = append(r.made, s.At)
			r.types = append(r.types, check.Local(p, i.A))
		}
		s = next
		r.shown.steps++
		r.wantState(t, s)
	}
	return r.shown
}

// P11.3: of runs of many programs.
func TestSurely(t *testing.T) {
	var saw shown
	for seed := range 8000 {
		saw.add(wantSurely(t, some(seed), 60))
	}
	// So that the runs are not all of one sort.
	if saw.steps < 60000 || saw.stored < 30000 || saw.held < 30000 || saw.moved < 6000 || saw.loaded < 800 {
		t.Errorf("%+v", saw)
	}
}

// P11.3: of runs of all short programs.
func TestSurelyInShortPrograms(t *testing.T) {
	for many := 1; many <= 3; many++ {
		var saw shown
		allShort(many, func(p api.Prog) { saw.add(wantSurely(t, p, 10)) })
		if saw.held == 0 || saw.stored == 0 != (many < 2) || saw.moved == 0 != (many < 2) || saw.loaded == 0 != (many < 3) {
			t.Errorf("of %d instructions: %+v", many, saw)
		}
	}
}

// P11.3: a list is made in a loop, and gone through. What it is made of leaks, and what looks at it does not.
func TestSurelyInALoop(t *testing.T) {
	p := lines(t, "set 0 -5\nset 6 1\nnew 3\nnew 0\nstorep 0 1 1\nmove 1 0\nstorei 0 0 0\nstorei 3 0 0\nmove 4 3\nadd 0 0 6\nzero 0 12\njump 3\n"+
		"loadp 1 1 1\nsame 2 1 7\nzero 2 12\n")
	wantMay(t, p, want{0: {3}, 1: {3}, 3: {2}, 4: {2}})
	wantLeaks(t, p, 3)
	if saw := wantSurely(t, p, 300); saw.steps != 3+5*9-1+5*3 || saw.stored == 0 || saw.held == 0 || saw.moved == 0 {
		t.Errorf("%+v", saw)
	}
}

// P11.3: of the most instructions: an object goes through all locals, in many rounds.
func TestSurelyOfTheMostInstructions(t *testing.T) {
	for _, stored := range []bool{false, true} {
		p := of("00000000", repeat(api.Ins{Op: api.Print}, api.Most)...)
		for k := range uint8(7) {
			p.Code[20*k+10] = move(6-k, 7-k)
		}
		p.Code[0], p.Code[199] = made(7), jump(0)
		if stored {
			p.Code[198] = api.Ins{Op: api.StoreG, A: 1}
		}
		wantRunnable(t, p)
		saw := wantSurely(t, p, 450)
		if saw.steps != 450 || saw.held == 0 != stored || saw.stored == 0 == stored {
			t.Errorf("%+v", saw)
		}
	}
}

// P11.3, the other way: what leaks is stored by a run, whatever the order in which it stands, and what May says a local has.
func TestLeaksAtItsPlace(t *testing.T) {
	for _, c := range []struct {
		text        string
		place, a    int
		steps, glob int
	}{
		{"new 0\nstoreg 0 0\n", 0, 0, 2, 1},
		{"new 0\nmove 1 0\nstoreg 0 1\n", 0, 1, 3, 1},
		{"storeg 0 0\nnew 0\njump 0\n", 1, 0, 4, 1},
		{"move 1 0\nstoreg 0 1\nnew 0\njump 0\n", 2, 1, 6, 1},
		{"storeg 0 2\nmove 2 1\nmove 1 0\nnew 0\njump 0\n", 3, 2, 16, 1},
		{"jump 3\nstoreg 0 3\njump 6\nnew 0\nmove 3 0\njump 1\n", 3, 3, 5, 1},
		{"new 4\nnew 0\nmove 0 1\nmove 1 0\nmove 1 4\nmove 0 1\nstoreg 0 0\n", 0, 0, 7, 1},
	} {
		p := lines(t, c.text)
		var s model.State
		for range c.steps {
			s, _, _ = model.Step(p, s)
		}
		if s.P[c.a] == 0 || s.G[0] != c.glob {
			t.Fatalf("p[%d] is %d, g[0] %d: %q", c.a, s.P[c.a], s.G[0], c.text)
		}
		if !May(p)[c.a][c.place] || !Leaks(p, c.place) {
			t.Errorf("%v, %v: %q", places(May(p)[c.a]), Leaks(p, c.place), c.text)
		}
		wantSurely(t, p, 100)
	}
}
