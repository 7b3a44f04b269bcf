package plan

import (
	"slices"
	"strings"
	"testing"

	"lockstitch/api"
	"lockstitch/check"
	"lockstitch/code"
)

// of is a program of one type, a number and a pointer, with all eight locals.
func of(code ...api.Ins) api.Prog {
	return api.Prog{Types: []string{"i0"}, Locals: "00000000", Globs: "0000", Code: code}
}

// number is a program of one type, a number alone, which one write makes whole.
func number(code ...api.Ins) api.Prog {
	return api.Prog{Types: []string{"i"}, Locals: "00000000", Globs: "0000", Code: code}
}

// lines is of the type i0, with the instructions of a text. It may be run.
func lines(t *testing.T, text string) api.Prog {
	t.Helper()
	return read(t, of(), text)
}

// read is a program with the instructions of a text. It may be run.
func read(t *testing.T, p api.Prog, text string) api.Prog {
	t.Helper()
	head, e := code.Print(p)
	if e != api.OK {
		t.Fatalf("%q has no text: %d", p.Types, e)
	}
	p, at, e := code.Parse(head + text)
	if e != api.OK {
		t.Fatalf("%q, line %d: %d", text, at, e)
	}
	wantRunnable(t, p)
	return p
}

func wantRunnable(t *testing.T, p api.Prog) {
	t.Helper()
	if at, e := check.Check(p); e != api.OK {
		t.Fatalf("%q %v may not be run: %d at %d", p.Types, p.Code, e, at)
	}
}

// facts is a list of them from a text, a word each: s for Stack, r for Raw, p for Plain, and - for none of these.
func facts(text string) []Fact {
	var l []Fact
	for _, word := range strings.Fields(text) {
		l = append(l, Fact{strings.Contains(word, "s"), strings.Contains(word, "r"), strings.Contains(word, "p")})
	}
	return l
}

// best is Best of a program that may be run. It asks that the program stays as it was.
func best(t *testing.T, p api.Prog) []Fact {
	t.Helper()
	types, was := slices.Clone(p.Types), slices.Clone(p.Code)
	l, e := Best(p)
	if e != api.OK {
		t.Fatalf("Best of %v is refused: %d", was, e)
	}
	if !slices.Equal(p.Types, types) || !slices.Equal(p.Code, was) {
		t.Fatalf("%q %v was made of %q %v", p.Types, p.Code, types, was)
	}
	return l
}

// wantBest asks for the facts of a text; for None's, too, and that both fit.
func wantBest(t *testing.T, p api.Prog, text string) {
	t.Helper()
	wantRunnable(t, p)
	if got := best(t, p); !slices.Equal(got, facts(text)) {
		t.Errorf("Best of %v = %v, want %q", p.Code, got, text)
	}
	wantNone(t, p)
}

// wantNone asks for None's facts, and that they fit, and so do Best's.
func wantNone(t *testing.T, p api.Prog) {
	t.Helper()
	l, e := None(p)
	if e != api.OK || !slices.Equal(l, make([]Fact, len(p.Code))) {
		t.Errorf("None of %v = %v, %d", p.Code, l, e)
	}
	if !Fits(p, l) || !Fits(p, best(t, p)) {
		t.Errorf("of %v None or Best does not fit", p.Code)
	}
}

// wantRefused asks it of Best and of None, and that no facts fit.
func wantRefused(t *testing.T, p api.Prog) {
	t.Helper()
	if l, e := Best(p); len(l) != 0 || e != api.ErrArg {
		t.Errorf("Best = %v, %d: %q %v", l, e, p.Types, p.Code)
	}
	if l, e := None(p); len(l) != 0 || e != api.ErrArg {
		t.Errorf("None = %v, %d: %q %v", l, e, p.Types, p.Code)
	}
	for _, many := range []int{0, 1, len(p.Code) - 1, len(p.Code), len(p.Code) + 1} {
		for _, one := range allFacts() {
			if l := slices.Repeat([]Fact{one}, max(many, 0)); Fits(p, l) {
				t.Errorf("%v fit: %q %v", l, p.Types, p.Code)
			}
		}
	}
	if Fits(p, nil) {
		t.Errorf("no facts fit: %q %v", p.Types, p.Code)
	}
}

// allFacts is each fact that there can be.
func allFacts() []Fact { return facts("- s r p sr sp rp srp") }

// flip turns one truth of a fact.
func flip(f *Fact, kind int) {
	is := []*bool{&f.Stack, &f.Raw, &f.Plain}[kind]
	*is = !*is
}

// has is one truth of a fact.
func has(f Fact, kind int) bool { return []bool{f.Stack, f.Raw, f.Plain}[kind] }

// repeat is so many of one instruction.
func repeat(i api.Ins, many int) []api.Ins { return slices.Repeat([]api.Ins{i}, many) }

func jump(to int) api.Ins       { return api.Ins{Op: api.Jump, N: int64(to)} }
func zero(to int) api.Ins       { return api.Ins{Op: api.Zero, A: 7, N: int64(to)} }
func made(a uint8) api.Ins      { return api.Ins{Op: api.New, A: a} }
func move(a, b uint8) api.Ins   { return api.Ins{Op: api.Move, A: a, B: b} }
func storeI(a uint8) api.Ins    { return api.Ins{Op: api.StoreI, A: a} }
func storeP(a, b uint8) api.Ins { return api.Ins{Op: api.StoreP, A: a, B: b, N: 1} }
