package live

import (
	"strings"
	"testing"

	"lockstitch/api"
)

// The words of P8.1: the letters at which an operation has the pointer locals that it uses, and that it sets.
const (
	usesWords = "move B;loadi B;loadp B;storei A;storep A B;storeg B;same B C"
	setsWords = "new A;nil A;move A;loadp A;loadg A"
	names     = "- set add jump zero new nil move loadi storei loadp storep loadg storeg print same"
)

// letters is a second reading of P8.1: each operation's letters by those words.
func letters(words string) [256]string {
	number := map[string]int{}
	for op, name := range strings.Fields(names) {
		number[name] = op
	}
	var all [256]string
	for _, row := range strings.Split(words, ";") {
		name, has, _ := strings.Cut(row, " ")
		all[number[name]] = has
	}
	return all
}

var useLetters, setLetters = letters(usesWords), letters(setsWords)

// setAt is the set of what an instruction has at these letters.
func setAt(i api.Ins, letters string) uint8 {
	set := uint8(0)
	for _, l := range strings.Fields(letters) {
		a := map[string]uint8{"A": i.A, "B": i.B, "C": i.C}[l]
		if a <= 7 {
			set |= bits(int(a))
		}
	}
	return set
}

func chapterUses(i api.Ins) uint8 { return setAt(i, useLetters[i.Op]) }
func chapterSets(i api.Ins) uint8 { return setAt(i, setLetters[i.Op]) }

func wantUsesSets(t *testing.T, i api.Ins, uses, sets uint8) {
	t.Helper()
	if got := Uses(i); got != uses {
		t.Errorf("Uses of %+v = %08b, want %08b", i, got, uses)
	}
	if got := Sets(i); got != sets {
		t.Errorf("Sets of %+v = %08b, want %08b", i, got, sets)
	}
}

// P8.1: each operation by hand, with other numbers in A, B and C, and in N, which says nothing.
func TestEachOperation(t *testing.T) {
	for _, n := range []int64{0, 3, 4, -1, 1 << 40} {
		for _, c := range []struct {
			op         uint8
			uses, sets uint8
		}{
			{api.Set, 0, 0}, {api.Add, 0, 0}, {api.Jump, 0, 0}, {api.Zero, 0, 0}, {api.Print, 0, 0},
			{api.New, 0, bits(1)}, {api.Nil, 0, bits(1)}, {api.Move, bits(2), bits(1)},
			{api.LoadI, bits(2), 0}, {api.StoreI, bits(1), 0},
			{api.LoadP, bits(2), bits(1)}, {api.StoreP, bits(1, 2), 0},
			{api.LoadG, 0, bits(1)}, {api.StoreG, bits(2), 0},
			{api.Same, bits(2, 5), 0},
		} {
			wantUsesSets(t, api.Ins{Op: c.op, A: 1, B: 2, C: 5, N: n}, c.uses, c.sets)
		}
	}
}

// P8.1: of all numbers at each letter, what there is of each operation, and of what is none.
func TestAllNumbers(t *testing.T) {
	others := []uint8{0, 1, 6, 7, 8, 255}
	for op := range 256 {
		for number := range 256 {
			for _, b := range others {
				for _, c := range others {
					n := uint8(number)
					for _, i := range []api.Ins{{A: n, B: b, C: c}, {A: b, B: n, C: c}, {A: b, B: c, C: n}} {
						i.Op = uint8(op)
						if Uses(i) != chapterUses(i) || Sets(i) != chapterSets(i) {
							t.Fatalf("Uses of %+v = %08b, Sets %08b", i, Uses(i), Sets(i))
						}
					}
				}
			}
		}
	}
}

// P8.1: 0, 7 and what is above 7, by hand.
func TestNumbersAboveSeven(t *testing.T) {
	for _, above := range []uint8{8, 9, 15, 16, 128, 135, 255} {
		for op := range uint8(20) {
			wantUsesSets(t, api.Ins{Op: op, A: above, B: above, C: above}, 0, 0)
		}
		wantUsesSets(t, api.Ins{Op: api.Move, A: above, B: 7}, bits(7), 0)
		wantUsesSets(t, api.Ins{Op: api.Move, A: 7, B: above}, 0, bits(7))
		wantUsesSets(t, api.Ins{Op: api.LoadP, A: above, B: 0}, bits(0), 0)
		wantUsesSets(t, api.Ins{Op: api.LoadP, A: 0, B: above}, 0, bits(0))
		wantUsesSets(t, api.Ins{Op: api.StoreP, A: above, B: 7}, bits(7), 0)
		wantUsesSets(t, api.Ins{Op: api.StoreP, A: 7, B: above}, bits(7), 0)
		wantUsesSets(t, api.Ins{Op: api.Same, A: 3, B: above, C: 7}, bits(7), 0)
		wantUsesSets(t, api.Ins{Op: api.Same, A: 3, B: 7, C: above}, bits(7), 0)
		// A number that is no pointer local's is none here, whatever it is.
		wantUsesSets(t, api.Ins{Op: api.LoadI, A: above, B: 7}, bits(7), 0)
		wantUsesSets(t, api.Ins{Op: api.StoreI, A: 7, B: above}, bits(7), 0)
		wantUsesSets(t, api.Ins{Op: api.StoreG, A: above, B: 0}, bits(0), 0)
		wantUsesSets(t, api.Ins{Op: api.LoadG, A: 0, B: above}, 0, bits(0))
	}
}

// P8.1: numbers that are one and the same.
func TestOneAndTheSame(t *testing.T) {
	for a := range uint8(8) {
		one := bits(int(a))
		wantUsesSets(t, api.Ins{Op: api.Move, A: a, B: a}, one, one)
		wantUsesSets(t, api.Ins{Op: api.LoadP, A: a, B: a}, one, one)
		wantUsesSets(t, api.Ins{Op: api.StoreP, A: a, B: a}, one, 0)
		wantUsesSets(t, api.Ins{Op: api.Same, A: a, B: a, C: a}, one, 0)
		wantUsesSets(t, api.Ins{Op: api.New, A: a}, 0, one)
		wantUsesSets(t, api.Ins{Op: api.Nil, A: a}, 0, one)
	}
}
