package flow

import (
	"slices"
	"testing"

	"lockstitch/api"
	"lockstitch/check"
	"lockstitch/code"
)

// with is a program with these instructions: of the type 0 the fields are a number and a pointer to 1, of 1 a pointer to 0.
func with(code ...api.Ins) api.Prog {
	return api.Prog{Types: []string{"i1", "0"}, Locals: "001", Globs: "0", Code: code}
}

// lines is with the instructions of a text.
func lines(t *testing.T, text string) api.Prog {
	t.Helper()
	head, e := code.Print(with())
	if e != api.OK {
		t.Fatalf("with has no text: %d", e)
	}
	p, at, e := code.Parse(head + text)
	if e != api.OK {
		t.Fatalf("%q, line %d: %d", text, at, e)
	}
	return p
}

func jump(to int) api.Ins { return api.Ins{Op: api.Jump, N: int64(to)} }
func zero(to int) api.Ins { return api.Ins{Op: api.Zero, A: 3, N: int64(to)} }

// plain is an instruction of each operation that neither jumps nor makes an object. What its N says is no place, whatever number it has.
func plain() []api.Ins {
	return []api.Ins{
		{Op: api.Set, A: 1, N: 2}, {Op: api.Set, A: 1, N: -4}, {Op: api.Set}, {Op: api.Add, A: 1, B: 2, C: 3}, {Op: api.Nil, A: 1}, {Op: api.Move, A: 1},
		{Op: api.LoadI, A: 4}, {Op: api.StoreI, A: 1, B: 5}, {Op: api.LoadP, A: 2, B: 1, N: 1}, {Op: api.LoadP, A: 1, B: 2}, {Op: api.StoreP, A: 1, B: 2, N: 1},
		{Op: api.StoreP, A: 2, B: 1}, {Op: api.LoadG, A: 1}, {Op: api.StoreG, B: 1}, {Op: api.Print, A: 7}, {Op: api.Same, A: 6, C: 1},
	}
}

// prints is so many instructions that go on to the next place.
func prints(many int) []api.Ins {
	return slices.Repeat([]api.Ins{{Op: api.Print}}, many)
}

// put is a program of prints, but for this instruction at that place.
func put(many, at int, i api.Ins) api.Prog {
	code := prints(many)
	code[at] = i
	return with(code...)
}

// wantRunnable is asked of the tests' own programs, as of others nothing is promised.
func wantRunnable(t *testing.T, p api.Prog) {
	t.Helper()
	if at, e := check.Check(p); e != api.OK {
		t.Fatalf("%v may not be run: %d at %d", p.Code, e, at)
	}
}

// wantAgain asks of a list that what is written over it is no later answer's, and that the program stays as it was.
func wantAgain[E comparable](t *testing.T, p api.Prog, ask func() []E, other E) []E {
	t.Helper()
	was := slices.Clone(p.Code)
	got := ask()
	is := slices.Clone(got)
	for k := range got[:cap(got)] {
		got[:cap(got)][k] = other
	}
	if again := ask(); !slices.Equal(again, is) {
		t.Errorf("%v, and then %v: %v", is, again, was)
	}
	if !slices.Equal(p.Code, was) {
		t.Errorf("%v was made of %v", p.Code, was)
	}
	return is
}

func wantNext(t *testing.T, p api.Prog, at int, want ...int) {
	t.Helper()
	got := wantAgain(t, p, func() []int { return Next(p, at) }, -9)
	if !slices.Equal(got, want) {
		t.Errorf("Next of %d = %v, want %v: %v", at, got, want, p.Code)
	}
}

func wantSafe(t *testing.T, p api.Prog, at int, want bool) {
	t.Helper()
	if got := Safe(p, at); got != want {
		t.Errorf("Safe of %d = %v: %v", at, got, p.Code)
	}
}

// wantReach is for a place. Loops is asked, too.
func wantReach(t *testing.T, p api.Prog, at int, places ...int) {
	t.Helper()
	want := make([]bool, len(p.Code)+1)
	for _, to := range places {
		want[to] = true
	}
	got := wantAgain(t, p, func() []bool { return Reach(p, at) }, true)
	if !slices.Equal(got, want) {
		t.Errorf("Reach of %d = %v, want %v: %v", at, got, want, p.Code)
	}
	if got := Loops(p, at); got != want[at] {
		t.Errorf("Loops of %d = %v: %v", at, got, p.Code)
	}
}

// noPlaces is numbers that are no places of a program of so many instructions.
func noPlaces(many int) []int {
	const most = int(^uint(0) >> 1)
	return []int{-1, -2, -most, -most - 1, -1 << 32, many + 1, many + 2, many + 200, 1 << 31, 1 << 32, most - 1, most}
}

// span is the numbers from first to last.
func span(first, last int) []int {
	var l []int
	for k := first; k <= last; k++ {
		l = append(l, k)
	}
	return l
}
