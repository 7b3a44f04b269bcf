package full

import (
	"math"
	"slices"
	"strings"
	"testing"

	"lockstitch/api"
	"lockstitch/check"
)

// wantEnds asks of both calls that they end, and do not panic.
func wantEnds(p api.Prog) {
	many := len(p.Code)
	for at := -1; at <= min(many, 300)+1; at++ {
		Last(p, at)
		Full(p, at)
	}
	for _, at := range []int{many - 2, many - 1, many, many + 1, math.MaxInt, math.MinInt, 1 << 32, -1 << 32} {
		Last(p, at)
		Full(p, at)
	}
}

// farOff is numbers that are no fields, some of them fields when they are cut short.
func farOff() []int64 {
	return []int64{-1, -2, -64, 5, 6, 7, 8, 63, 64, 65, 200, 255, 256, 1 << 16, 1 << 31, 1 << 32, 1<<32 + 1, -1 << 32, -1<<32 + 2, 1 << 62, math.MaxInt64, math.MaxInt64 - 1, math.MinInt64, math.MinInt64 + 1}
}

// R1: writes of what is no field, ahead of, between, and behind what is one.
func TestEndsOfWritesOfNoFields(t *testing.T) {
	for _, n := range farOff() {
		for _, op := range []uint8{api.StoreI, api.StoreP} {
			for at := 1; at < 4; at++ {
				for _, letters := range []string{"i", "i0", "00i"} {
					code := []api.Ins{{Op: api.New, A: 1}, {Op: api.StoreI, A: 1}, {Op: api.StoreP, A: 1, N: 1}, {Op: api.StoreP, A: 1, N: 2}}
					code[at] = api.Ins{Op: op, A: 1, N: n}
					p := of(letters, code...)
					if _, e := check.Check(p); e == api.OK {
						t.Errorf("%q %v may be run", p.Types, p.Code)
					}
					wantEnds(p)
				}
			}
		}
	}
}

// R1: operations that there are not, and instructions that have what they may not have.
func TestEndsOfWrongInstructions(t *testing.T) {
	for op := range 256 {
		for _, n := range append(farOff(), 0, 1, 2, 3) {
			for _, i := range []api.Ins{
				{Op: uint8(op), A: 255, B: 8, C: 128, N: n},
				{Op: uint8(op), A: 7, B: 255, C: 9, N: n},
				{Op: uint8(op), A: 8, B: 7, C: 7, N: n},
			} {
				made := api.Ins{Op: api.New, A: i.A, B: 3, N: n}
				wantEnds(with(i))
				wantEnds(with(made, i, i))
				wantEnds(with(made, i, api.Ins{Op: api.StoreI, A: i.A, N: n}, api.Ins{Op: api.StoreP, A: i.A, N: 1}, made))
			}
		}
	}
}

// R1: types, locals and globals that may not be, no instructions, and more than there may be.
func TestEndsOfWrongPrograms(t *testing.T) {
	wantEnds(api.Prog{})
	wantEnds(with())
	long := slices.Repeat([]api.Ins{{Op: api.New}, {Op: api.StoreI}, zero(0), {Op: api.New, A: 3}, {Op: api.StoreP, A: 3, N: 1}, jump(5)}, 100)
	for _, p := range []api.Prog{
		{Code: long},
		{Types: []string{"i9", ""}, Code: long},
		{Types: []string{""}, Locals: "0000", Code: long},
		{Types: []string{"iiiiiii"}, Locals: "0000", Code: long},
		{Types: []string{strings.Repeat("i", 300)}, Locals: "0000", Code: long},
		{Types: []string{"i9"}, Locals: "0000", Code: long},
		{Types: []string{"i"}, Locals: strings.Repeat("7", 300), Globs: "é\x00", Code: long},
		{Types: []string{"i"}, Locals: "\xff\x00", Code: long},
		{Types: slices.Repeat([]string{"i"}, 300), Locals: strings.Repeat("0", 300), Code: long},
		with(repeat(api.Ins{Op: api.Move, B: 1}, 201)...),
		with(long...),
		with(repeat(api.Ins{Op: api.New}, 1000)...),
	} {
		if _, e := check.Check(p); e == api.OK {
			t.Errorf("%q may be run", p.Types)
		}
		wantEnds(p)
	}
}

// R1: many more instructions than there may be.
func TestEndsOfVeryLongPrograms(t *testing.T) {
	for _, between := range []api.Ins{{Op: api.Print}, {Op: api.StoreI, A: 3}, {Op: api.New, A: 3}, zero(0), {Op: api.Move, A: 1, B: 3}} {
		p := with(repeat(between, 200000)...)
		p.Code[0] = api.Ins{Op: api.New, A: 3}
		p.Code[len(p.Code)-1] = api.Ins{Op: api.StoreP, A: 3, N: 1}
		wantEnds(p)
	}
}
