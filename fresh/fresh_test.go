package fresh

import (
	"slices"
	"testing"

	"lockstitch/api"
	"lockstitch/check"
	"lockstitch/code"
)

// all is the set of all eight pointer locals.
const all = 0b11111111

// with is a program with these instructions. Of the type 0 the fields are a number, a pointer to 0 and one to 1; of 1 a pointer to 0, and a number. p[2], p[3] and p[6] point to the type 1.
func with(code ...api.Ins) api.Prog {
	return api.Prog{Types: []string{"i01", "0i"}, Locals: "00110010", Globs: "01", Code: code}
}

// lines is with the instructions of a text. It may be run.
func lines(t *testing.T, text string) api.Prog {
	t.Helper()
	head, e := code.Print(with())
	if e != api.OK {
		t.Fatalf("with has no text: %d", e)
	}
	p, at, e := code.Parse(head + text)
	if e != api.OK {
		t.Fatalf("%q, line %d: %d", text, at, e)
	}
	wantRunnable(t, p)
	return p
}

// wantRunnable is asked of the tests' own programs, as of others nothing is promised.
func wantRunnable(t *testing.T, p api.Prog) {
	t.Helper()
	if at, e := check.Check(p); e != api.OK {
		t.Fatalf("%v may not be run: %d at %d", p.Code, e, at)
	}
}

// bits is the set of these pointer locals.
func bits(locals ...int) uint8 {
	set := uint8(0)
	for _, a := range locals {
		set |= 1 << a
	}
	return set
}

// but is the set of all others.
func but(locals ...int) uint8 { return all - bits(locals...) }

// wantIn asks, too, that what is written over an answer is no later one's, and that the program stays as it was.
func wantIn(t *testing.T, p api.Prog, want ...uint8) {
	t.Helper()
	was := slices.Clone(p.Code)
	got := In(p)
	if !slices.Equal(got, want) {
		t.Errorf("In = %08b, want %08b: %v", got, want, p.Code)
	}
	is := slices.Clone(got)
	for k := range got[:cap(got)] {
		got[:cap(got)][k] = 0xaa
	}
	if again := In(p); !slices.Equal(again, is) {
		t.Errorf("%08b, and then %08b: %v", is, again, was)
	}
	if !slices.Equal(p.Code, was) {
		t.Errorf("%v was made of %v", p.Code, was)
	}
}

// wantOut asks, too, that the program stays as it was.
func wantOut(t *testing.T, p api.Prog, at int, in, want uint8) {
	t.Helper()
	was := slices.Clone(p.Code)
	if got := Out(p, at, in); got != want {
		t.Errorf("Out of %d with %08b = %08b, want %08b: %v", at, in, got, want, was)
	}
	if !slices.Equal(p.Code, was) {
		t.Errorf("%v was made of %v", p.Code, was)
	}
}

// repeat is so many of one instruction.
func repeat(i api.Ins, many int) []api.Ins { return slices.Repeat([]api.Ins{i}, many) }

func jump(to int) api.Ins { return api.Ins{Op: api.Jump, N: int64(to)} }
func zero(to int) api.Ins { return api.Ins{Op: api.Zero, A: 7, N: int64(to)} }
