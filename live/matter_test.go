package live

import (
	"slices"
	"testing"

	"lockstitch/api"
	"lockstitch/model"
)

// anything is what may stand in a pointer local: nothing, an object, one of the other type, or what is no object at all.
func (d *dice) anything(s model.State) int {
	switch d.below(4) {
	case 0:
		return 0
	case 1:
		return -1 - d.below(1000)
	case 2:
		return len(s.Objs) + 1 + d.below(1<<30)
	}
	return 1 + d.below(len(s.Objs)+1)
}

// spoil is s with anything in the pointer locals that are not in the set.
func (d *dice) spoil(s model.State, in uint8) model.State {
	for a := range s.P {
		if in>>a&1 == 0 {
			s.P[a] = d.anything(s)
		}
	}
	return s
}

// wantAlike asks for P8.3: at each step of a second run anything is put where it does not matter, and the run goes as the first one. The answer is how many steps there were, and whether it ended by having followed nothing.
func wantAlike(t *testing.T, p api.Prog, seed, most int) (int, bool) {
	t.Helper()
	d := &dice{uint64(seed)*0x9e3779b97f4a7c15 + 5}
	in := In(p)
	var plain, spoiled model.State
	for step := range most {
		spoiled = d.spoil(spoiled, in[spoiled.At])
		was := plain.At
		var done, spoiledDone bool
		var e, spoiledE api.Errno
		plain, done, e = model.Step(p, plain)
		spoiled, spoiledDone, spoiledE = model.Step(p, spoiled)
		if done != spoiledDone || e != spoiledE || plain.At != spoiled.At || !slices.Equal(plain.Out, spoiled.Out) {
			t.Errorf("at %d: %v, %d, to %d, printed %v; with anything else in its pointer locals %v, %d, to %d, %v: %v",
				was, done, e, plain.At, plain.Out, spoiledDone, spoiledE, spoiled.At, spoiled.Out, p.Code)
			return step, false
		}
		if done || e != api.OK {
			return step, e == api.ErrZero
		}
	}
	return most, false
}

// P8.3: of runs of many programs.
func TestDoesNotMatter(t *testing.T) {
	steps, zeros, printed := 0, 0, 0
	for seed := range 6000 {
		p := some(seed)
		for k, i := range p.Code {
			// What was loaded, or asked, is printed more often than it falls out by itself.
			if i.Op == api.Set && k%2 == 0 {
				p.Code[k] = api.Ins{Op: api.Print, A: i.A}
			}
		}
		many, zero := wantAlike(t, p, seed, 80)
		steps += many
		if zero {
			zeros++
		}
		if out, _ := model.Run(p, 80); len(out) > 1 {
			printed++
		}
		if t.Failed() {
			t.FailNow()
		}
	}
	// So that the runs are not all of one sort.
	if steps < 60000 || zeros < 500 || zeros > 5000 || printed < 500 {
		t.Errorf("%d steps, %d of 6000 followed nothing, %d printed", steps, zeros, printed)
	}
}

// P8.3: of runs of all short programs.
func TestDoesNotMatterInShortPrograms(t *testing.T) {
	seed := 0
	for many := 1; many <= 3; many++ {
		allShort(many, func(p api.Prog) {
			seed++
			wantAlike(t, p, seed, 10)
		})
	}
}

// P8.3: a list is made, gone through, and counted, while its other pointer locals may be anything.
func TestDoesNotMatterInALoop(t *testing.T) {
	p := lines(t, "set 0 -5\nset 7 1\nnew 0\nstoreg 0 0\nnew 1\nstorep 0 1 1\nstorei 1 0 0\nmove 0 1\nadd 0 0 7\nzero 0 11\njump 4\n"+
		"loadg 0 0\nnil 1\nset 5 0\nloadi 1 0 0\nprint 1\nloadp 0 0 1\nsame 2 0 1\nzero 2 14\nprint 2\n")
	out, e := model.Run(p, 1000)
	if e != api.OK || !slices.Equal(out, []int64{0, -5, -4, -3, -2, -1, 1}) {
		t.Fatalf("it prints %v, %d", out, e)
	}
	for seed := range 200 {
		if steps, zero := wantAlike(t, p, seed, 1000); steps < 60 || zero {
			t.Errorf("it ends after %d steps, %v", steps, zero)
		}
	}
	in := In(p)
	if in[4] != bits(0) || in[8] != bits(0) || in[11] != 0 || in[14] != bits(0, 1) || in[19] != 0 {
		t.Errorf("In = %08b", in)
	}
}

// P8.3, the other way: what is put into a local that is in In shows, in programs in which it must.
func TestDoesMatter(t *testing.T) {
	for _, c := range []struct {
		text  string
		local int
	}{
		{"new 0\nnew 1\nset 1 7\nstorei 1 0 1\nloadi 0 1 0\nprint 0\n", 1},
		{"new 0\nmove 1 0\nsame 0 0 1\nprint 0\n", 1},
		{"new 0\nnew 1\nstorep 0 1 1\nloadp 4 0 1\nsame 0 1 4\nprint 0\nloadi 0 4 0\n", 0},
		{"new 0\nnew 1\nstoreg 0 1\nloadg 4 0\nloadi 0 4 0\n", 1},
	} {
		p := lines(t, c.text)
		var s model.State
		for range 2 {
			s, _, _ = model.Step(p, s)
		}
		if In(p)[2]&bits(c.local) == 0 {
			t.Errorf("In of 2 is without %d: %q", c.local, c.text)
		}
		s.P[c.local] = 0
		want, wantE := model.Run(p, 100)
		done, e := false, api.OK
		for e == api.OK && !done {
			s, done, e = model.Step(p, s)
		}
		if e == wantE && slices.Equal(s.Out, want) {
			t.Errorf("with nothing in %d it prints the same, %v: %q", c.local, want, c.text)
		}
	}
}
