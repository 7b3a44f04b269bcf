package fresh

import (
	"testing"

	"lockstitch/api"
	"lockstitch/model"
)

// seen is what a run has shown: how many steps it did, how often a local that is in In had an object, and how often one that is not had an old one.
type seen struct{ steps, held, old int }

// wantSurely asks for P9.3 at each place of a run.
func wantSurely(t *testing.T, p api.Prog, most int) seen {
	t.Helper()
	in := In(p)
	var s model.State
	var saw seen
	// The objects up to this one were made ahead of the last safepoint that was done.
	last := 0
	for range most {
		for a, object := range s.P {
			switch isIn := in[s.At]>>a&1 == 1; {
			case isIn && object != 0 && object <= last:
				t.Errorf("at %d p[%d] is in In, and of the object %d, while the safepoint had %d: %v", s.At, a, object, last, p.Code)
			case isIn && object != 0:
				saw.held++
			case object != 0 && object <= last:
				saw.old++
			}
		}
		next, done, e := model.Step(p, s)
		if e == api.ErrArg {
			t.Fatalf("%v may not be run", p.Code)
		}
		if done || e != api.OK {
			break
		}
		// A New's own object is made behind its safepoint.
		if isSafe(p, s.At) {
			last = len(s.Objs)
		}
		s = next
		saw.steps++
	}
	return saw
}

// P9.3: of runs of many programs.
func TestSurely(t *testing.T) {
	var saw seen
	for seed := range 6000 {
		one := wantSurely(t, some(seed), 80)
		saw.steps += one.steps
		saw.held += one.held
		saw.old += one.old
		if t.Failed() {
			t.FailNow()
		}
	}
	// So that the runs are not all of one sort.
	if saw.steps < 60000 || saw.held < 20000 || saw.old < 60000 {
		t.Errorf("%+v", saw)
	}
}

// P9.3: of runs of all short programs.
func TestSurelyInShortPrograms(t *testing.T) {
	for many := 1; many <= 4; many++ {
		allShort(many, func(p api.Prog) { wantSurely(t, p, 12) })
	}
}

// P9.3: a list is made in a loop: what was made in a round is new up to its end, and the one ahead of it is not.
func TestSurelyInALoop(t *testing.T) {
	p := lines(t, "set 0 -5\nset 7 1\nnew 0\nstoreg 0 0\nnew 1\nstorep 0 1 1\nstorei 1 0 0\nmove 0 1\nadd 0 0 7\nzero 0 11\njump 4\n"+
		"loadg 4 0\nnil 5\nset 5 0\nloadi 1 4 0\nloadp 4 4 1\nsame 2 4 5\nzero 2 14\nprint 1\n")
	wantIn(t, p, all, all, all, bits(0), 0, bits(1), bits(1), bits(1), bits(0, 1), bits(0, 1), bits(0, 1), bits(0, 1), bits(0, 1), bits(0, 1, 5), 0, 0, 0, 0, 0, 0)
	if saw := wantSurely(t, p, 1000); saw.steps != 4+5*7-1+3+6*4+1 || saw.held == 0 || saw.old == 0 {
		t.Errorf("%+v", saw)
	}
}

// P9.3, the other way: what is taken away has to be, as a run has an old object there.
func TestOldAtItsPlace(t *testing.T) {
	for _, c := range []struct {
		text        string
		place, a    int
		steps, last int
	}{
		{"new 0\nnew 1\n", 2, 0, 2, 1},
		{"new 0\nnew 1\nmove 1 0\n", 3, 1, 3, 1},
		{"new 0\nmove 0 0\nnew 1\nmove 0 0\n", 4, 0, 4, 1},
		{"new 0\nstorep 0 1 0\nnew 1\nloadp 1 0 1\n", 4, 1, 4, 1},
		{"new 0\nnew 1\nstorep 1 1 0\nloadp 1 1 1\n", 4, 1, 4, 1},
		{"new 0\nstoreg 0 0\nnew 0\nloadg 0 0\n", 4, 0, 4, 1},
		{"new 0\nzero 0 1\n", 1, 0, 2, 1},
		{"new 0\nset 0 1\nzero 0 0\n", 3, 0, 3, 1},
		{"jump 2\njump 3\nnew 7\njump 1\n", 3, 7, 4, 1},
		{"new 0\njump 3\nprint 0\nprint 1\njump 2\n", 2, 0, 4, 1},
	} {
		p := lines(t, c.text)
		var s model.State
		for range c.steps {
			s, _, _ = model.Step(p, s)
		}
		if s.At != c.place || s.P[c.a] == 0 || s.P[c.a] > c.last {
			t.Fatalf("at %d p[%d] is %d: %q", s.At, c.a, s.P[c.a], c.text)
		}
		if In(p)[c.place]&bits(c.a) != 0 {
			t.Errorf("In of %d has %d: %q", c.place, c.a, c.text)
		}
		wantSurely(t, p, 100)
	}
}

// P9.3: of the most instructions, all in one loop, or in part, with an object made in each round, or once ahead of it.
func TestSurelyOfTheMostInstructions(t *testing.T) {
	last := api.Most - 1
	for _, made := range []int{0, 1, 100, last - 1} {
		for _, to := range []int{0, 1, 100, last - 1, last} {
			for _, back := range []api.Ins{jump(to), zero(to)} {
				p := put(api.Most, made, api.Ins{Op: api.New, A: 7})
				p.Code[last] = back
				wantRunnable(t, p)
				// What is made right ahead of the place that one comes back to is new nowhere.
				nowhere := made+1 == to
				if saw := wantSurely(t, p, 1000); saw.steps != 1000 || saw.held == 0 != nowhere {
					t.Errorf("New at %d, from %d back to %d: %+v", made, last, to, saw)
				}
			}
		}
	}
}
