package code

import (
	"math"
	"slices"
	"strings"
	"testing"

	"lockstitch/api"
)

func wantPrint(t *testing.T, p api.Prog, want string) {
	t.Helper()
	if got, e := Print(p); got != want || e != api.OK {
		t.Errorf("Print(%+v) = %q, %d; want %q", p, got, e, want)
	}
}

// wantNoPrint asks for the text of no bytes beside the error, too.
func wantNoPrint(t *testing.T, p api.Prog) {
	t.Helper()
	if got, e := Print(p); got != "" || e != api.ErrArg {
		t.Errorf("Print(%+v) = %q, %d; want none, and ErrArg", p, got, e)
	}
}

// wantPrints asks for any text, or for none.
func wantPrints(t *testing.T, p api.Prog, want bool) {
	t.Helper()
	if !want {
		wantNoPrint(t, p)
	} else if got, e := Print(p); got == "" || e != api.OK {
		t.Errorf("Print(%+v) = %q, %d", p, got, e)
	}
}

func list() api.Prog {
	return api.Prog{Types: []string{"i1", "0"}, Locals: "01", Globs: "0", Code: []api.Ins{
		{Op: api.New, A: 0},
		{Op: api.Set, A: 3, N: -17},
		{Op: api.StoreI, A: 0, B: 3, N: 0},
		{Op: api.New, A: 1},
		{Op: api.StoreP, A: 0, B: 1, N: 1},
		{Op: api.StoreG, A: 0, B: 0},
		{Op: api.Jump, N: 0},
	}}
}

const listText = "type i1\ntype 0\nlocals 01\nglobals 0\nnew 0\nset 3 -17\nstorei 0 0 3\nnew 1\nstorep 0 1 1\nstoreg 0 0\njump 0\n"

// P4.2, example 1.
func TestPrintExample(t *testing.T) {
	wantPrint(t, api.Prog{Types: []string{"i"}, Locals: "0", Code: []api.Ins{{Op: api.New}, {Op: api.StoreI, A: 0, B: 3, N: 0}}},
		"type i\nlocals 0\nglobals -\nnew 0\nstorei 0 0 3\n")
}

// P4.2: the lines in their order.
func TestPrintOrdinary(t *testing.T) {
	wantPrint(t, list(), listText)
}

// P4.2: each operation, its numbers in the order of the chapter.
func TestPrintEachOperation(t *testing.T) {
	code := []api.Ins{
		{Op: api.Set, A: 1, N: 4},
		{Op: api.Add, A: 1, B: 2, C: 3},
		{Op: api.Jump, N: 4},
		{Op: api.Zero, A: 1, N: 4},
		{Op: api.New, A: 1},
		{Op: api.Nil, A: 1},
		{Op: api.Move, A: 1, B: 2},
		{Op: api.LoadI, A: 1, B: 2, N: 4},
		{Op: api.StoreI, A: 1, B: 2, N: 4},
		{Op: api.LoadP, A: 1, B: 2, N: 4},
		{Op: api.StoreP, A: 1, B: 2, N: 4},
		{Op: api.LoadG, A: 1, B: 2},
		{Op: api.StoreG, A: 1, B: 2},
		{Op: api.Print, A: 1},
		{Op: api.Same, A: 1, B: 2, C: 3},
	}
	texts := []string{
		"set 1 4", "add 1 2 3", "jump 4", "zero 1 4", "new 1", "nil 1", "move 1 2", "loadi 1 2 4",
		"storei 1 4 2", "loadp 1 2 4", "storep 1 4 2", "loadg 1 2", "storeg 1 2", "print 1", "same 1 2 3",
	}
	const head = "locals -\nglobals -\n"
	for k, i := range code {
		wantPrint(t, api.Prog{Code: []api.Ins{i}}, head+texts[k]+"\n")
	}
	wantPrint(t, api.Prog{Code: code}, head+strings.Join(texts, "\n")+"\n")
}

// P4.2: numbers as the chapter of word has them, to the ends of what a number is.
func TestPrintNumbers(t *testing.T) {
	one := func(i api.Ins, want string) {
		t.Helper()
		wantPrint(t, api.Prog{Code: []api.Ins{i}}, "locals -\nglobals -\n"+want+"\n")
	}
	one(api.Ins{Op: api.Set}, "set 0 0")
	one(api.Ins{Op: api.Set, A: 255, N: -1}, "set 255 -1")
	one(api.Ins{Op: api.Set, A: 128, N: math.MaxInt64}, "set 128 9223372036854775807")
	one(api.Ins{Op: api.Set, A: 9, N: math.MinInt64}, "set 9 -9223372036854775808")
	one(api.Ins{Op: api.Add, A: 255, B: 254, C: 253}, "add 255 254 253")
	one(api.Ins{Op: api.Jump, N: -100}, "jump -100")
	one(api.Ins{Op: api.StoreP, A: 200, B: 100, N: 10}, "storep 200 10 100")
	one(api.Ins{Op: api.LoadI, N: 1 << 40}, "loadi 0 0 1099511627776")
}

// P4.2: no types, no letters and no instructions are two lines; nil and empty are alike.
func TestPrintOfNothing(t *testing.T) {
	wantPrint(t, api.Prog{}, "locals -\nglobals -\n")
	wantPrint(t, api.Prog{Types: []string{}, Code: []api.Ins{}}, "locals -\nglobals -\n")
	wantPrint(t, api.Prog{Locals: "0"}, "locals 0\nglobals -\n")
	wantPrint(t, api.Prog{Globs: "0"}, "locals -\nglobals 0\n")
	wantPrint(t, api.Prog{Types: []string{"i"}}, "type i\nlocals -\nglobals -\n")
}

// P4.2: what has only letters may be printed, whether it may be run or not.
func TestPrintOfWhatMayNotBeRun(t *testing.T) {
	wantPrint(t, api.Prog{Types: []string{"type", "9", "i0123456789"}, Locals: "locals", Globs: "xyz", Code: []api.Ins{{Op: api.Jump, N: 99}}},
		"type type\ntype 9\ntype i0123456789\nlocals locals\nglobals xyz\njump 99\n")
	wantPrint(t, api.Prog{Types: slices.Repeat([]string{"i"}, 9)}, strings.Repeat("type i\n", 9)+"locals -\nglobals -\n")
}

// withLetters are programs that have these letters at one place each; the first of them has them as a type.
func withLetters(letters string) []api.Prog {
	return []api.Prog{
		{Types: []string{letters}},
		{Types: []string{"i", letters}, Locals: "0"},
		{Types: []string{letters, "i"}, Globs: "0"},
		{Locals: letters},
		{Types: []string{"i"}, Locals: letters, Globs: "0"},
		{Globs: letters},
		{Types: []string{"i"}, Locals: "0", Globs: letters},
	}
}

const typePlaces = 3 // so many of withLetters are types

// P4.2: the letters a to z and 0 to 9, and no other byte.
func TestPrintEachLetter(t *testing.T) {
	for b := range 256 {
		letter := string([]byte{byte(b)})
		want := strings.Contains("abcdefghijklmnopqrstuvwxyz0123456789", letter)
		for _, letters := range []string{letter, letter + "i", "i" + letter, "0" + letter + "0"} {
			for _, p := range withLetters(letters) {
				wantPrints(t, p, want)
			}
		}
	}
}

// P4.2: 30 letters at most; a type has one at least.
func TestPrintHowManyLetters(t *testing.T) {
	for n := range 300 {
		for _, letter := range []string{"a", "z", "0", "9"} {
			for k, p := range withLetters(strings.Repeat(letter, n)) {
				wantPrints(t, p, n <= 30 && (n > 0 || k >= typePlaces))
			}
		}
	}
	long := strings.Repeat("a", 30)
	wantPrint(t, api.Prog{Types: []string{long}, Locals: long, Globs: long}, "type "+long+"\nlocals "+long+"\nglobals "+long+"\n")
}

// P4.2: what a text has for none is no letters.
func TestPrintOfOtherSigns(t *testing.T) {
	for _, letters := range []string{"-", "0-", "-0", " ", "0 1", "#", "i#", "i\n", "\n", "I", "é", "０", "٣", "ı", "\x00", "\xff", "_"} {
		for _, p := range withLetters(letters) {
			wantNoPrint(t, p)
		}
	}
}

// P4.2: 200 instructions at most.
func TestPrintHowManyInstructions(t *testing.T) {
	for _, n := range []int{0, 1, 2, 199, 200} {
		wantPrint(t, api.Prog{Code: slices.Repeat([]api.Ins{{Op: api.New, A: 4}}, n)}, "locals -\nglobals -\n"+strings.Repeat("new 4\n", n))
	}
	for _, n := range []int{201, 202, 255, 256, 257, 400, 456, 1 << 16} {
		wantNoPrint(t, api.Prog{Code: slices.Repeat([]api.Ins{{Op: api.New, A: 4}}, n)})
	}
}

// P4.2: each instruction may be, the first one, the last one, and each between.
func TestPrintOfAWrongInstruction(t *testing.T) {
	for _, wrong := range []api.Ins{{}, {Op: 16}, {Op: 255}, {A: 1}, {Op: api.New, B: 1}, {Op: api.New, N: 1}, {Op: api.Jump, A: 1}, {Op: api.Set, C: 1}, {Op: api.Same, N: -1}} {
		wantNoPrint(t, api.Prog{Code: []api.Ins{wrong}})
		for _, n := range []int{2, 3, 10, 200} {
			for _, at := range []int{0, n / 2, n - 1} {
				p := api.Prog{Types: []string{"i"}, Locals: "0", Code: slices.Repeat([]api.Ins{{Op: api.Print}}, n)}
				p.Code[at] = wrong
				wantNoPrint(t, p)
			}
		}
	}
}

// P4.2: more than a text may be that is read is printed all the same.
func TestPrintOfMuch(t *testing.T) {
	letters := strings.Repeat("z", 30)
	p := api.Prog{Types: slices.Repeat([]string{letters}, 5000), Code: slices.Repeat([]api.Ins{{Op: api.StoreI, A: 255, B: 255, N: math.MinInt64}}, 200)}
	wantPrint(t, p, strings.Repeat("type "+letters+"\n", 5000)+"locals -\nglobals -\n"+strings.Repeat("storei 255 -9223372036854775808 255\n", 200))
	p.Types[4999] += "z"
	wantNoPrint(t, p)
}

// R6: what is handed in stays as it is.
func TestPrintChangesNothing(t *testing.T) {
	p := list()
	wantPrint(t, p, listText)
	wantPrint(t, p, listText)
	if !sameProg(p, list()) {
		t.Errorf("changed: %+v", p)
	}
}
