package code

import (
	"math"
	"strings"
	"testing"

	"lockstitch/api"
)

// chapter is the table of the chapter, in the order of the operations.
const chapter = "set A N;add A B C;jump N;zero A N;new A;nil A;move A B;loadi A B N;storei A N B;loadp A B N;storep A N B;loadg A B;storeg A B;print A;same A B C"

var chapterWords = func() [][]string {
	var all [][]string
	for _, row := range strings.Split(chapter, ";") {
		all = append(all, strings.Fields(row))
	}
	return all
}()

// form is a name, and the letters of what it has.
func form(op int) (string, []string) {
	words := chapterWords[op-1]
	return words[0], words[1:]
}

func has(op int, letter string) bool {
	_, letters := form(op)
	for _, l := range letters {
		if l == letter {
			return true
		}
	}
	return false
}

// with is i with another number at that letter.
func with(i api.Ins, letter string, n int64) api.Ins {
	switch letter {
	case "A":
		i.A = uint8(n)
	case "B":
		i.B = uint8(n)
	case "C":
		i.C = uint8(n)
	case "N":
		i.N = n
	}
	return i
}

func wantRight(t *testing.T, i api.Ins, want bool) {
	t.Helper()
	if got := Right(i); got != want {
		t.Errorf("Right(%+v) = %t", i, got)
	}
}

// numbersFor are some that a letter may have, 0 not among them.
func numbersFor(letter string) []int64 {
	if letter != "N" {
		return []int64{1, 2, 7, 8, 127, 128, 200, 201, 254, 255}
	}
	return []int64{1, -1, 2, 7, 200, 255, 256, 1 << 8, 1 << 16, 1 << 31, 1 << 32, -1 << 32, 1 << 40, 1 << 62, math.MaxInt64, math.MinInt64, math.MinInt64 + 1}
}

// The numbers of the operations in the chapter are those of api.
func TestOperationsAreThoseOfTheChapter(t *testing.T) {
	for op, name := range map[int]string{
		api.Set: "set", api.Add: "add", api.Jump: "jump", api.Zero: "zero", api.New: "new",
		api.Nil: "nil", api.Move: "move", api.LoadI: "loadi", api.StoreI: "storei", api.LoadP: "loadp",
		api.StoreP: "storep", api.LoadG: "loadg", api.StoreG: "storeg", api.Print: "print", api.Same: "same",
	} {
		if got, _ := form(op); got != name {
			t.Errorf("%d is %s in the table, and %s by api", op, got, name)
		}
	}
}

// P4.1: the operations are 1 to 15.
func TestRightEachOp(t *testing.T) {
	for op := range 256 {
		wantRight(t, api.Ins{Op: uint8(op)}, 1 <= op && op <= 15)
	}
	wantRight(t, api.Ins{}, false)
	wantRight(t, api.Ins{A: 1, B: 2, C: 3, N: 4}, false)
	wantRight(t, api.Ins{Op: 16, A: 1}, false)
	wantRight(t, api.Ins{Op: 16, A: 1, B: 2, C: 3, N: 4}, false)
	wantRight(t, api.Ins{Op: 255, A: 255, B: 255, C: 255, N: -1}, false)
}

// P4.1: ordinary ones, with all that they have.
func TestRightOrdinary(t *testing.T) {
	for _, i := range []api.Ins{
		{Op: api.Set, A: 1, N: -5},
		{Op: api.Add, A: 1, B: 2, C: 3},
		{Op: api.Jump, N: 7},
		{Op: api.Zero, A: 1, N: 7},
		{Op: api.New, A: 1},
		{Op: api.Nil, A: 1},
		{Op: api.Move, A: 1, B: 2},
		{Op: api.LoadI, A: 1, B: 2, N: 3},
		{Op: api.StoreI, A: 1, B: 2, N: 3},
		{Op: api.LoadP, A: 1, B: 2, N: 3},
		{Op: api.StoreP, A: 1, B: 2, N: 3},
		{Op: api.LoadG, A: 1, B: 2},
		{Op: api.StoreG, A: 1, B: 2},
		{Op: api.Print, A: 1},
		{Op: api.Same, A: 1, B: 2, C: 3},
	} {
		wantRight(t, i, true)
		for _, letter := range []string{"A", "B", "C", "N"} {
			if !has(int(i.Op), letter) {
				wantRight(t, with(i, letter, 1), false)
			}
		}
	}
}

// P4.1: each of A, B, C and N alone: one that it has may be anything, one that it has not is 0.
func TestRightEachNumber(t *testing.T) {
	for op := 1; op <= 15; op++ {
		for _, letter := range []string{"A", "B", "C", "N"} {
			i := api.Ins{Op: uint8(op)}
			wantRight(t, with(i, letter, 0), true)
			for _, n := range numbersFor(letter) {
				wantRight(t, with(i, letter, n), has(op, letter))
			}
		}
	}
}

// P4.1: each choice of numbers that are not 0, of each operation, and of each number that is none's.
func TestRightEachChoiceOfNumbers(t *testing.T) {
	for op := range 256 {
		for choice := range 16 {
			i := api.Ins{Op: uint8(op)}
			want := 1 <= op && op <= 15
			for k, letter := range []string{"A", "B", "C", "N"} {
				if choice>>k&1 == 1 {
					i = with(i, letter, 3)
					want = want && has(op, letter)
				}
			}
			wantRight(t, i, want)
		}
	}
}

// P4.1: numbers that are not its own do not make up for one another, wrapping round or not.
func TestRightOfNumbersThatAreNotItsOwn(t *testing.T) {
	for _, i := range []api.Ins{
		{Op: api.New, B: 128, C: 128},
		{Op: api.New, B: 1, C: 255},
		{Op: api.New, B: 1, N: -1},
		{Op: api.Jump, A: 1, B: 255},
		{Op: api.Move, C: 2, N: -2},
		{Op: api.Print, B: 3, C: 3},
		{Op: api.Print, N: math.MinInt64},
		{Op: api.Add, N: 1 << 32},
		{Op: api.Same, N: 256},
	} {
		wantRight(t, i, false)
	}
}
