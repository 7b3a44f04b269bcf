package fresh

import (
	"math"
	"slices"
	"strings"
	"testing"

	"lockstitch/api"
	"lockstitch/check"
)

// wantEnds asks of both calls that they end, and do not panic.
func wantEnds(p api.Prog) {
	In(p)
	many := len(p.Code)
	for at := -1; at <= min(many, 300)+1; at++ {
		for _, in := range []uint8{0, 1, 0b10101010, all} {
			Out(p, at, in)
		}
	}
	for _, at := range []int{many - 1, many, many + 1, math.MaxInt, math.MinInt, 1 << 32, -1 << 32} {
		Out(p, at, all)
	}
}

// farOff is numbers that are no places, some of them places when they are cut short.
func farOff() []int64 {
	return []int64{-1, -2, 5, 7, 200, 201, 1 << 16, 1 << 31, 1 << 32, 1<<32 + 1, -1 << 32, -1<<32 + 2, 1 << 62, math.MaxInt64, math.MaxInt64 - 1, math.MinInt64, math.MinInt64 + 1}
}

// R1: jumps to what is no place, of each instruction of a few.
func TestEndsOfJumpsToNoPlaces(t *testing.T) {
	for _, n := range farOff() {
		for _, op := range []uint8{api.Jump, api.Zero} {
			for at := range 4 {
				p := with(repeat(api.Ins{Op: api.LoadP, N: 1}, 4)...)
				p.Code[at] = api.Ins{Op: op, N: n}
				if _, e := check.Check(p); e != api.ErrJump {
					t.Errorf("%v: %d", p.Code, e)
				}
				wantEnds(p)
				p.Code[3-at] = api.Ins{Op: api.Zero, A: 255, N: n}
				wantEnds(p)
			}
		}
	}
}

// R1: operations that there are not, and instructions that have what they may not have.
func TestEndsOfWrongInstructions(t *testing.T) {
	for op := range 256 {
		for _, n := range append(farOff(), 0, 1, 2, 3) {
			for _, i := range []api.Ins{
				{Op: uint8(op), A: 255, B: 8, C: 128, N: n},
				{Op: uint8(op), A: 7, B: 255, C: 9, N: n},
				{Op: uint8(op), A: 8, B: 7, C: 7, N: n},
			} {
				wantEnds(with(i))
				wantEnds(with(i, jump(0), i, zero(1), i))
			}
		}
	}
}

// R1: types, locals and globals that may not be, no instructions, and more than there may be.
func TestEndsOfWrongPrograms(t *testing.T) {
	wantEnds(api.Prog{})
	wantEnds(with())
	long := slices.Repeat([]api.Ins{{Op: api.New}, zero(0), jump(5), {Op: api.LoadP, A: 9, B: 1}}, 100)
	for _, p := range []api.Prog{
		{Code: long},
		{Types: []string{"i9", ""}, Code: long},
		{Types: []string{"i"}, Locals: strings.Repeat("7", 300), Globs: "é\x00", Code: long},
		with(repeat(api.Ins{Op: api.Move, B: 1}, 201)...),
		with(long...),
		with(repeat(zero(0), 1000)...),
	} {
		if _, e := check.Check(p); e == api.OK {
			t.Errorf("%q may be run", p.Types)
		}
		wantEnds(p)
	}
}

// R1: many more instructions than there may be.
func TestEndsOfVeryLongPrograms(t *testing.T) {
	for _, last := range []api.Ins{{Op: api.New, A: 3}, jump(0), zero(0)} {
		p := with(repeat(api.Ins{Op: api.Print}, 200000)...)
		p.Code[len(p.Code)-1] = last
		wantEnds(p)
		slices.Reverse(p.Code)
		wantEnds(p)
	}
	// Each one leads one place back, and one on.
	p := with(repeat(api.Ins{Op: api.Zero}, 200000)...)
	for at := range p.Code {
		p.Code[at].N = int64(at - 1)
	}
	wantEnds(p)
}
