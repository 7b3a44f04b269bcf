package leak

import (
	"math"
	"slices"
	"strings"
	"testing"

	"lockstitch/api"
	"lockstitch/check"
)

// wantEnds asks of both calls that they end, and do not panic.
func wantEnds(p api.Prog) {
	many := len(p.Code)
	May(p)
	for at := -1; at <= min(many, 300)+1; at++ {
		Leaks(p, at)
	}
	for _, at := range []int{many - 2, many - 1, many, many + 1, math.MaxInt, math.MinInt, 1 << 32, -1 << 32} {
		Leaks(p, at)
	}
}

// R1: operations that there are not, and instructions that have what they may not have.
func TestEndsOfWrongInstructions(t *testing.T) {
	for op := range 256 {
		for _, n := range []int64{0, 1, -1, 6, 200, 1 << 32, math.MaxInt64, math.MinInt64} {
			for _, i := range []api.Ins{
				{Op: uint8(op), A: 255, B: 8, C: 128, N: n},
				{Op: uint8(op), A: 7, B: 255, C: 9, N: n},
				{Op: uint8(op), A: 8, B: 7, C: 7, N: n},
			} {
				wantEnds(with(i))
				wantEnds(with(made(i.A), i, i, made(i.B)))
				wantEnds(with(move(i.A, 7), i, move(7, i.B), made(7), api.Ins{Op: api.StoreP, A: i.A, B: i.B, N: n}, made(i.A), made(i.B)))
				wantEnds(of("", made(i.A), i, api.Ins{Op: api.StoreG, A: i.A, B: i.B, N: n}))
			}
		}
	}
}

// R1: a New, a Move and a store of each number, of each number of locals: of some that are there, and of some that are not.
func TestEndsOfLocalsThatAreNotThere(t *testing.T) {
	for many := range 10 {
		locals := strings.Repeat("0", many)
		for a := range 256 {
			for _, b := range []uint8{0, 1, 6, 7, 8, 9, 127, 128, 254, 255} {
				p := of(locals, made(uint8(a)), move(b, uint8(a)), move(uint8(a), b), made(b), api.Ins{Op: api.StoreP, A: b, B: uint8(a), N: 1}, api.Ins{Op: api.StoreG, B: b})
				if _, e := check.Check(p); e == api.OK != (a < many && int(b) < many && many <= api.Ptrs) {
					t.Errorf("%d and %d of %q may be run: %v", a, b, p.Locals, e == api.OK)
				}
				wantEnds(p)
			}
		}
	}
}

// R1: types, locals and globals that may not be, no instructions, and more than there may be.
func TestEndsOfWrongPrograms(t *testing.T) {
	wantEnds(api.Prog{})
	wantEnds(with())
	wantEnds(api.Prog{Locals: "00"})
	long := slices.Repeat([]api.Ins{made(0), move(3, 0), zero(0), made(3), {Op: api.StoreP, A: 3, B: 3, N: 1}, jump(5), move(255, 3)}, 100)
	for _, p := range []api.Prog{
		{Code: long},
		{Types: []string{"i9", ""}, Code: long},
		{Types: []string{"i"}, Locals: strings.Repeat("7", 300), Globs: "é\x00", Code: long},
		{Types: []string{"i"}, Locals: "\xff\x00", Code: long},
		{Types: []string{"i"}, Locals: strings.Repeat("0", 255), Code: long},
		{Types: []string{"i"}, Locals: strings.Repeat("0", 256), Code: long},
		{Types: []string{"i"}, Locals: strings.Repeat("0", 257), Code: long},
		{Types: []string{"i"}, Locals: strings.Repeat("0", 20000), Code: long},
		with(repeat(move(0, 1), 201)...),
		with(long...),
	} {
		if _, e := check.Check(p); e == api.OK {
			t.Errorf("%q may be run", p.Types)
		}
		wantEnds(p)
	}
}

// R1: a chain through all locals that an instruction can name, against the order of its Moves.
func TestEndsOfTheLongestChain(t *testing.T) {
	var code []api.Ins
	for a := 255; a > 0; a-- {
		code = append(code, move(uint8(a), uint8(a-1)))
	}
	code = append(code, made(0), api.Ins{Op: api.StoreG, B: 255})
	wantEnds(of(strings.Repeat("0", 256), code...))
}

// R1: many more instructions than there may be.
func TestEndsOfVeryLongPrograms(t *testing.T) {
	for _, between := range []api.Ins{{Op: api.Print}, {Op: api.StoreG, B: 3}, made(3), zero(0), move(1, 3), move(3, 3)} {
		p := with(repeat(between, 200000)...)
		p.Code[0] = move(7, 6)
		p.Code[1] = move(6, 3)
		p.Code[len(p.Code)-1] = made(3)
		wantEnds(p)
	}
}
