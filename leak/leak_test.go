package leak

import (
	"slices"
	"testing"

	"lockstitch/api"
	"lockstitch/check"
	"lockstitch/code"
)

// with is a program with these instructions. Of the type 0 the fields are a number, a pointer to 0 and one to 1; of 1 a pointer to 0, and a number. p[2], p[3] and p[6] point to the type 1, and so does g[1].
func with(code ...api.Ins) api.Prog {
	return api.Prog{Types: []string{"i01", "0i"}, Locals: "00110010", Globs: "01", Code: code}
}

// of is a program of one type, a number and a pointer, with these locals.
func of(locals string, code ...api.Ins) api.Prog {
	return api.Prog{Types: []string{"i0"}, Locals: locals, Globs: "0000", Code: code}
}

// lines is of all eight locals, with the instructions of a text. It may be run.
func lines(t *testing.T, text string) api.Prog {
	t.Helper()
	return read(t, of("00000000"), text)
}

// read is a program with the instructions of a text. It may be run.
func read(t *testing.T, p api.Prog, text string) api.Prog {
	t.Helper()
	head, e := code.Print(p)
	if e != api.OK {
		t.Fatalf("%q has no text: %d", p.Types, e)
	}
	p, at, e := code.Parse(head + text)
	if e != api.OK {
		t.Fatalf("%q, line %d: %d", text, at, e)
	}
	wantRunnable(t, p)
	return p
}

// wantRunnable is asked of the tests' own programs, as of others nothing is promised.
func wantRunnable(t *testing.T, p api.Prog) {
	t.Helper()
	if at, e := check.Check(p); e != api.OK {
		t.Fatalf("%q %v may not be run: %d at %d", p.Types, p.Code, e, at)
	}
}

// wantForm asks for as many rows as there are locals, and for as many truths in each as there are places.
func wantForm(t *testing.T, p api.Prog, may [][]bool) {
	t.Helper()
	if len(may) != len(p.Locals) {
		t.Fatalf("May has %d rows, want %d: %v", len(may), len(p.Locals), p.Code)
	}
	for a, row := range may {
		if len(row) != len(p.Code)+1 {
			t.Fatalf("May of p[%d] has %d truths, want %d: %v", a, len(row), len(p.Code)+1, p.Code)
		}
	}
}

// places is where a row is true.
func places(row []bool) []int {
	var all []int
	for at, is := range row {
		if is {
			all = append(all, at)
		}
	}
	return all
}

// want is the places of each local. Those that are not named have none.
type want map[int][]int

// wantMay asks that the program stays as it was, too.
func wantMay(t *testing.T, p api.Prog, all want) {
	t.Helper()
	types, was := slices.Clone(p.Types), slices.Clone(p.Code)
	may := May(p)
	wantForm(t, p, may)
	for a, row := range may {
		if got := places(row); !slices.Equal(got, all[a]) {
			t.Errorf("May of p[%d] = %v, want %v: %v", a, got, all[a], was)
		}
	}
	if !slices.Equal(p.Types, types) || !slices.Equal(p.Code, was) {
		t.Errorf("%q %v was made of %q %v", p.Types, p.Code, types, was)
	}
}

// wantLeaks asks it of each place, of the end, and of what is no place. Those that are not named do not leak.
func wantLeaks(t *testing.T, p api.Prog, all ...int) {
	t.Helper()
	types, was := slices.Clone(p.Types), slices.Clone(p.Code)
	for at := -3; at <= len(p.Code)+3; at++ {
		if got := Leaks(p, at); got != slices.Contains(all, at) {
			t.Errorf("Leaks of %d = %v: %v", at, got, was)
		}
	}
	if !slices.Equal(p.Types, types) || !slices.Equal(p.Code, was) {
		t.Errorf("%q %v was made of %q %v", p.Types, p.Code, types, was)
	}
}

// repeat is so many of one instruction.
func repeat(i api.Ins, many int) []api.Ins { return slices.Repeat([]api.Ins{i}, many) }

func jump(to int) api.Ins     { return api.Ins{Op: api.Jump, N: int64(to)} }
func zero(to int) api.Ins     { return api.Ins{Op: api.Zero, A: 7, N: int64(to)} }
func made(a uint8) api.Ins    { return api.Ins{Op: api.New, A: a} }
func move(a, b uint8) api.Ins { return api.Ins{Op: api.Move, A: a, B: b} }
