package full

import (
	"slices"
	"testing"

	"lockstitch/api"
	"lockstitch/check"
	"lockstitch/code"
)

// with is a program with these instructions. Of the type 0 the fields are a number, a pointer to 0 and one to 1; of 1 a pointer to 0, and a number. p[2], p[3] and p[6] point to the type 1.
func with(code ...api.Ins) api.Prog {
	return api.Prog{Types: []string{"i01", "0i"}, Locals: "00110010", Globs: "01", Code: code}
}

// of is a program with one type alone, of these letters, to which all locals and globals point.
func of(letters string, code ...api.Ins) api.Prog {
	return api.Prog{Types: []string{letters}, Locals: "00000000", Globs: "0000", Code: code}
}

// lines is with the instructions of a text. It may be run.
func lines(t *testing.T, text string) api.Prog {
	t.Helper()
	return read(t, with(), text)
}

// read is a program with the instructions of a text. It may be run.
func read(t *testing.T, p api.Prog, text string) api.Prog {
	t.Helper()
	head, e := code.Print(p)
	if e != api.OK {
		t.Fatalf("%q has no text: %d", p.Types, e)
	}
	p, at, e := code.Parse(head + text)
	if e != api.OK {
		t.Fatalf("%q, line %d: %d", text, at, e)
	}
	wantRunnable(t, p)
	return p
}

// wantRunnable is asked of the tests' own programs, as of others nothing is promised.
func wantRunnable(t *testing.T, p api.Prog) {
	t.Helper()
	if at, e := check.Check(p); e != api.OK {
		t.Fatalf("%q %v may not be run: %d at %d", p.Types, p.Code, e, at)
	}
}

// wantLast asks for Full too, and that the program stays as it was.
func wantLast(t *testing.T, p api.Prog, at, want int) {
	t.Helper()
	types, was := slices.Clone(p.Types), slices.Clone(p.Code)
	if got := Last(p, at); got != want {
		t.Errorf("Last of %d = %d, want %d: %q %v", at, got, want, types, was)
	}
	if got := Full(p, at); got != (want != -1) {
		t.Errorf("Full of %d = %v, and Last is %d: %q %v", at, got, want, types, was)
	}
	if !slices.Equal(p.Types, types) || !slices.Equal(p.Code, was) {
		t.Errorf("%q %v was made of %q %v", p.Types, p.Code, types, was)
	}
}

// wantLasts asks it of each place, of the end, and of what is no place. Those that are not named here have none.
func wantLasts(t *testing.T, p api.Prog, want map[int]int) {
	t.Helper()
	for at := -2; at <= len(p.Code)+2; at++ {
		last, has := want[at]
		if !has {
			last = -1
		}
		wantLast(t, p, at, last)
	}
}

// repeat is so many of one instruction.
func repeat(i api.Ins, many int) []api.Ins { return slices.Repeat([]api.Ins{i}, many) }

func jump(to int) api.Ins { return api.Ins{Op: api.Jump, N: int64(to)} }
func zero(to int) api.Ins { return api.Ins{Op: api.Zero, A: 7, N: int64(to)} }

// write is of the field k of p[a], as that field's letter asks for: of x[3], or of p[7].
func write(letters string, a uint8, k int) api.Ins {
	if letters[k] == 'i' {
		return api.Ins{Op: api.StoreI, A: a, B: 3, N: int64(k)}
	}
	return api.Ins{Op: api.StoreP, A: a, B: 7, N: int64(k)}
}
