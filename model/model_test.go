package model

import (
	"fmt"
	"slices"
	"testing"

	"lockstitch/api"
	"lockstitch/code"
)

// base is a program of three types, without instructions: of the type 0 the fields are a number, a pointer to 1, one to 0 and a number, of 1 a pointer to 0, of 2 two numbers and a pointer to 2.
func base() api.Prog {
	return api.Prog{Types: []string{"i10i", "0", "ii2"}, Locals: "001122", Globs: "0012"}
}

// with is a program with these instructions instead of its own.
func with(p api.Prog, code ...api.Ins) api.Prog {
	p.Code = code
	return p
}

// lines is base with the instructions of a text.
func lines(t *testing.T, text string) api.Prog {
	t.Helper()
	head, e := code.Print(base())
	if e != api.OK {
		t.Fatalf("base has no text: %d", e)
	}
	p, at, e := code.Parse(head + text)
	if e != api.OK {
		t.Fatalf("%q, line %d: %d", text, at, e)
	}
	return p
}

// alike holds lists without elements, and nil, for the same.
func alike(a, b State) bool {
	return a.X == b.X && a.P == b.P && a.G == b.G && a.At == b.At && a.Steps == b.Steps &&
		slices.Equal(a.Out, b.Out) && slices.EqualFunc(a.Objs, b.Objs, slices.Equal)
}

// deep is a copy of s that shares nothing with it.
func deep(s State) State {
	c := s
	c.Objs, c.Out = nil, append([]int64(nil), s.Out...)
	for _, fields := range s.Objs {
		c.Objs = append(c.Objs, append([]int64(nil), fields...))
	}
	return c
}

// wantStep asks for a step's answer, and that what was handed in stays as it was.
func wantStep(t *testing.T, p api.Prog, s, want State, done bool, e api.Errno) State {
	t.Helper()
	was, code := deep(s), slices.Clone(p.Code)
	got, gotDone, gotE := Step(p, s)
	if !alike(got, want) || gotDone != done || gotE != e {
		t.Errorf("Step of %+v = %+v, %v, %d; want %+v, %v, %d; at %d of %v", was, got, gotDone, gotE, want, done, e, was.At, p.Code)
	}
	if !alike(s, was) || !slices.Equal(code, p.Code) {
		t.Errorf("Step made %+v of %+v, and %v of %v", s, was, p.Code, code)
	}
	return got
}

// after is the state behind all steps that there are, up to an error or to the end.
func after(t *testing.T, p api.Prog) State {
	t.Helper()
	s := State{}
	for range 10000 {
		next, done, e := Step(p, s)
		if done || e != api.OK {
			if !alike(next, s) {
				t.Errorf("Step of %+v = %+v, %v, %d", s, next, done, e)
			}
			return next
		}
		s = next
	}
	t.Errorf("no end: %v", p.Code)
	return s
}

// behind is the state that the first of these texts ends with, taken on in the program of both of them.
func behind(t *testing.T, first, text string) (api.Prog, State) {
	t.Helper()
	s := after(t, lines(t, first))
	if s.At != len(lines(t, first).Code) {
		t.Fatalf("%q does not come to its end: %+v", first, s)
	}
	return lines(t, first+text), s
}

// wantChange asks for that of the one instruction of text behind those of first: what change does, one step more, and one place more.
func wantChange(t *testing.T, first, text string, change func(*State)) State {
	t.Helper()
	p, s := behind(t, first, text)
	want := deep(s)
	want.At++
	want.Steps++
	change(&want)
	return wantStep(t, p, s, want, false, api.OK)
}

func wantRun(t *testing.T, p api.Prog, fuel int, out []int64, e api.Errno) {
	t.Helper()
	code := slices.Clone(p.Code)
	got, gotE := Run(p, fuel)
	if !slices.Equal(got, out) || gotE != e {
		t.Errorf("Run with %d = %s, %d; want %s, %d: %v", fuel, brief(got), gotE, brief(out), e, p.Code)
	}
	if !slices.Equal(code, p.Code) {
		t.Errorf("Run made %v of %v", p.Code, code)
	}
}

// brief tells the beginning of a list that may be long.
func brief(l []int64) string {
	return fmt.Sprintf("%d numbers %v", len(l), l[:min(len(l), 30)])
}

// wrong is programs that may not be run, of each error, each with instructions that would do something (but those that have none).
func wrong() []api.Prog {
	set := api.Ins{Op: api.Set, A: 1, N: 5}
	return []api.Prog{
		{},
		{Types: []string{"i"}},
		{Code: []api.Ins{set}},
		{Types: []string{"i1"}, Locals: "0", Code: []api.Ins{set}},
		{Types: []string{"i"}, Locals: "1", Code: []api.Ins{set}},
		{Types: []string{"i"}, Globs: "00000", Code: []api.Ins{set}},
		{Types: []string{"i"}, Locals: "000000000", Code: []api.Ins{set}},
		with(base(), slices.Repeat([]api.Ins{set}, 201)...),
		with(base(), set, api.Ins{}),
		with(base(), set, api.Ins{Op: 16}),
		with(base(), set, api.Ins{Op: api.New, N: 1}),
		with(base(), set, api.Ins{Op: api.Jump, N: 3}),
		with(base(), set, api.Ins{Op: api.Zero, N: -1}),
		with(base(), set, api.Ins{Op: api.Set, A: 8}),
		with(base(), set, api.Ins{Op: api.New, A: 6}),
		with(base(), set, api.Ins{Op: api.Move, A: 1, B: 2}),
		with(base(), set, api.Ins{Op: api.LoadI, N: 4}),
		with(base(), set, api.Ins{Op: api.StoreI, N: 1}),
		with(base(), set, api.Ins{Op: api.LoadG, B: 4}),
	}
}
