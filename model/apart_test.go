package model

import (
	"slices"
	"testing"

	"lockstitch/api"
)

// scribble writes over all that s holds, and over what is behind its lists, as far as there is room.
func scribble(s State) {
	for _, fields := range s.Objs {
		fill(fields)
	}
	objs := s.Objs[:cap(s.Objs)]
	for k := range objs {
		objs[k] = []int64{-9}
	}
	fill(s.Out)
}

func fill(l []int64) {
	l = l[:cap(l)]
	for k := range l {
		l[k] = -9
	}
}

// roomy is a copy of s whose lists have room behind them, so that who appends to one without need writes there.
func roomy(s State) State {
	s = deep(s)
	for k, fields := range s.Objs {
		s.Objs[k] = slices.Grow(fields, 5)
	}
	s.Objs, s.Out = slices.Grow(s.Objs, 5), slices.Grow(s.Out, 5)
	return s
}

// apartProgs is, of each way that Step may answer, a program and a state that has objects, and numbers in Out.
func apartProgs(t *testing.T) []func() (api.Prog, State) {
	var all []func() (api.Prog, State)
	add := func(p api.Prog, s State) {
		all = append(all, func() (api.Prog, State) { return p, roomy(s) })
	}
	const first = linked + "storeg 0 0\nprint 1\nprint 2\n"
	for _, text := range []string{
		"set 0 1", "add 0 1 2", "jump 0", "zero 0 0", "zero 7 0", "new 0", "nil 0", "move 0 1", "loadi 0 0 0", "storei 0 0 1",
		"loadp 1 0 2", "storep 0 2 0", "loadg 0 0", "storeg 1 1", "print 0", "same 0 0 1",
		"loadp 1 3 0", "storep 3 0 0",
		"",
	} {
		add(behind(t, first, text))
	}
	p, s := behind(t, first, "")
	s.At = -1
	add(p, s)
	s.At = 0
	for _, p := range wrong() {
		add(p, s)
	}
	return all
}

// P6.1 and R6: what is handed in stays as it is, whatever is done with what is answered.
func TestWhatIsHandedInStays(t *testing.T) {
	for _, of := range apartProgs(t) {
		p, s := of()
		was, objs, out := deep(s), s.Objs[:cap(s.Objs)], slices.Clone(s.Out[:cap(s.Out)])
		got, _, _ := Step(p, s)
		scribble(got)
		if !alike(s, was) {
			t.Errorf("%v: what was handed in is %+v, was %+v", p.Code, s, was)
		}
		for k, fields := range objs {
			if k >= len(s.Objs) && fields != nil || k < len(s.Objs) && slices.Max(append(fields[len(fields):cap(fields)], 0)) != 0 {
				t.Errorf("%v: something was written behind the objects that were handed in", p.Code)
			}
		}
		if !slices.Equal(out, s.Out[:cap(s.Out)]) {
			t.Errorf("%v: something was written behind what was printed: %v, was %v", p.Code, s.Out[:cap(s.Out)], out)
		}
	}
}

// P6.1 and R6: what is answered stays as it is, whatever is done with what was handed in.
func TestWhatIsAnsweredStays(t *testing.T) {
	for _, of := range apartProgs(t) {
		p, s := of()
		want, _, _ := Step(p, deep(s))
		got, _, _ := Step(p, s)
		scribble(s)
		if !alike(got, want) {
			t.Errorf("%v: what was answered is %+v, was %+v", p.Code, got, want)
		}
	}
}

// P6.1 and R6: two that are answered of one state are apart, and no two lists of one answer share any.
func TestTwoAnswersAreApart(t *testing.T) {
	for _, of := range apartProgs(t) {
		p, s := of()
		one, _, _ := Step(p, s)
		other, done, e := Step(p, s)
		want := deep(other)
		scribble(one)
		if !alike(other, want) {
			t.Errorf("%v: the other answer is %+v, was %+v", p.Code, other, want)
		}
		wantStep(t, p, s, want, done, e)
		for k := range other.Objs {
			fill(other.Objs[k])
			for j := range other.Objs {
				if j > k && !slices.Equal(other.Objs[j], want.Objs[j]) {
					t.Errorf("%v: writing over the object %d changed the object %d", p.Code, k+1, j+1)
				}
			}
		}
		if !slices.Equal(other.Out, want.Out) {
			t.Errorf("%v: writing over the objects changed Out", p.Code)
		}
	}
}

// P6.1: one state, taken on in two ways, prints what each of them prints.
func TestOneStateTakenOnInTwoWays(t *testing.T) {
	p, s := behind(t, "set 0 1\nset 1 2\nprint 0\n", "print 0\nprint 1\nprint 0\n")
	for range 5 {
		first, _, _ := Step(p, s)
		s.At++
		second, _, _ := Step(p, s)
		s.At--
		if !slices.Equal(first.Out, append(slices.Clone(s.Out), 1)) || !slices.Equal(second.Out, append(slices.Clone(s.Out), 2)) {
			t.Errorf("of %v: %v and %v", s.Out, first.Out, second.Out)
		}
		s.Out = first.Out
	}
}

// R6: what one run printed stays as it is, whatever is done with what another one did.
func TestRunsAreApart(t *testing.T) {
	p := lines(t, "set 0 1\nprint 0\nadd 0 0 0\nprint 0\njump 2")
	first, e := Run(p, 100)
	want := slices.Clone(first)
	second, _ := Run(p, 100)
	fill(second)
	if !slices.Equal(first, want) || e != api.ErrFuel {
		t.Errorf("%v, %d, was %v", first, e, want)
	}
	wantRun(t, p, 100, want, api.ErrFuel)
}
