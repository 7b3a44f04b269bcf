package plan

import (
	"math"
	"slices"
	"strings"
	"testing"

	"lockstitch/api"
	"lockstitch/check"
)

// P12.1, P12.2: types, locals and globals that may not be, no instructions, and one more than there may be.
func TestRefusesWrongPrograms(t *testing.T) {
	code := []api.Ins{made(0), storeI(0)}
	for _, p := range []api.Prog{
		{},
		{Code: code},
		of(),
		{Types: []string{"i"}, Locals: "0"},
		{Types: []string{"i9"}, Locals: "0", Code: code},
		{Types: []string{""}, Locals: "0", Code: code},
		{Types: []string{"i", ""}, Locals: "0", Code: code},
		{Types: []string{"iiiiiii"}, Locals: "0", Code: code},
		{Types: slices.Repeat([]string{"i"}, api.Types+1), Locals: "0", Code: code},
		{Types: []string{"i"}, Locals: "1", Code: code},
		{Types: []string{"i"}, Locals: "0i", Code: code},
		{Types: []string{"i"}, Locals: "\xff", Code: code},
		{Types: []string{"i"}, Locals: "000000000", Code: code},
		{Types: []string{"i"}, Locals: strings.Repeat("0", 20000), Code: code},
		{Types: []string{"i"}, Locals: "0", Globs: "00000", Code: code},
		{Types: []string{"i"}, Locals: "0", Globs: "é", Code: code},
		of(repeat(made(0), api.Most+1)...),
	} {
		wantRefused(t, p)
	}
}

// P12.1, P12.2: one wrong instruction, at each place of a program that may be run without it.
func TestRefusesWrongInstructions(t *testing.T) {
	p := read(t, number(), "new 0\nstorei 0 0 1\nzero 0 0\n")
	for _, wrong := range []api.Ins{
		{}, {Op: 16}, {Op: 255}, {Op: api.New, A: 8}, {Op: api.New, A: 255}, {Op: api.New, N: 1}, {Op: api.New, B: 1}, jump(-1), jump(4), zero(5),
		{Op: api.Jump, N: math.MaxInt64}, {Op: api.Zero, N: math.MinInt64}, {Op: api.Jump, N: 1 << 32}, {Op: api.StoreI, A: 8}, {Op: api.StoreI, N: 1},
		{Op: api.StoreI, N: -1}, {Op: api.StoreI, N: 1 << 32}, {Op: api.StoreP}, {Op: api.StoreG, A: 4}, {Op: api.Move, B: 8}, {Op: api.LoadP}, {Op: api.Print, A: 8},
	} {
		for at := range p.Code {
			q := p
			q.Code = slices.Clone(p.Code)
			q.Code[at] = wrong
			wantRefused(t, q)
		}
	}
	wantBest(t, p, "r - -")
}

// R1, P12.1: each operation with all sorts of numbers, in the midst of others: what check.Check lets through has facts, and all others are refused.
func TestEveryInstruction(t *testing.T) {
	is, isNot := 0, 0
	for op := range 256 {
		for _, n := range []int64{0, 1, 2, 3, -1, 6, 200, 1 << 32, math.MaxInt64, math.MinInt64} {
			for _, a := range []uint8{0, 1, 3, 7, 8, 255} {
				for _, i := range []api.Ins{{Op: uint8(op), A: a, N: n}, {Op: uint8(op), A: a, B: 7 - a, N: n}, {Op: uint8(op), A: a, B: a, C: a, N: n}} {
					p := of(made(a%8), i, storeP(7, a%8), storeI(a%8))
					if _, e := check.Check(p); e != api.OK {
						wantRefused(t, p)
						isNot++
						continue
					}
					wantChapter(t, p)
					is++
				}
			}
		}
	}
	if is < 50 || isNot < 30000 {
		t.Errorf("%d may be run, %d may not", is, isNot)
	}
}

// R1: many more instructions than there may be.
func TestRefusesVeryLongPrograms(t *testing.T) {
	for _, i := range []api.Ins{made(3), storeP(3, 2), zero(0), move(1, 3), {Op: api.Print}, {}} {
		p := of(repeat(i, 200000)...)
		if l, e := Best(p); len(l) != 0 || e != api.ErrArg {
			t.Errorf("Best has %d facts, %d", len(l), e)
		}
		if l, e := None(p); len(l) != 0 || e != api.ErrArg {
			t.Errorf("None has %d facts, %d", len(l), e)
		}
		if Fits(p, make([]Fact, 200000)) {
			t.Error("they fit")
		}
	}
}
