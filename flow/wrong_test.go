package flow

import (
	"math"
	"slices"
	"strings"
	"testing"

	"lockstitch/api"
	"lockstitch/check"
)

// wantEnds asks of all calls that they end, and do not panic.
func wantEnds(p api.Prog) {
	for _, at := range append(span(0, min(len(p.Code), 300)), noPlaces(len(p.Code))...) {
		Next(p, at)
		Safe(p, at)
		Reach(p, at)
		Loops(p, at)
	}
}

// farOff is numbers that are no places, some of them places when they are cut short.
func farOff() []int64 {
	return []int64{-1, -2, 5, 7, 200, 201, 1 << 16, 1 << 31, 1 << 32, 1<<32 + 1, -1 << 32, -1<<32 + 2, 1 << 62, math.MaxInt64, math.MaxInt64 - 1, math.MinInt64, math.MinInt64 + 1}
}

// R1: jumps to what is no place.
func TestEndsOfJumpsToNoPlaces(t *testing.T) {
	for _, n := range farOff() {
		for _, op := range []uint8{api.Jump, api.Zero} {
			for at := range 4 {
				p := put(4, at, api.Ins{Op: op, N: n})
				if _, e := check.Check(p); e != api.ErrJump {
					t.Errorf("%v: %d", p.Code, e)
				}
				wantEnds(p)
				p.Code[3-at] = api.Ins{Op: api.Zero, A: 255, N: n}
				wantEnds(p)
			}
		}
	}
}

// R1: operations that there are not, and instructions that have what they may not have.
func TestEndsOfWrongInstructions(t *testing.T) {
	for op := range 256 {
		for _, n := range append(farOff(), 0, 1, 2, 3) {
			i := api.Ins{Op: uint8(op), A: 255, B: 255, C: 255, N: n}
			wantEnds(with(i))
			wantEnds(with(i, jump(0), i))
		}
	}
}

// R1: types, locals and globals that may not be, no instructions, and more than there may be.
func TestEndsOfWrongPrograms(t *testing.T) {
	wantEnds(api.Prog{})
	wantEnds(with())
	long := slices.Repeat([]api.Ins{{Op: api.New}, zero(0), jump(5), {Op: api.Print}}, 100)
	for _, p := range []api.Prog{
		{Code: long},
		{Types: []string{"i9", ""}, Code: long},
		{Types: []string{"i"}, Locals: strings.Repeat("7", 300), Globs: "é\x00", Code: long},
		with(prints(201)...),
		with(long...),
		with(slices.Repeat([]api.Ins{zero(0)}, 1000)...),
	} {
		if _, e := check.Check(p); e == api.OK {
			t.Errorf("%q may be run", p.Types)
		}
		wantEnds(p)
	}
}

// R1: many more instructions than there may be.
func TestEndsOfVeryLongPrograms(t *testing.T) {
	const many = 200000
	for _, last := range []api.Ins{{Op: api.Print}, jump(0), zero(0)} {
		p := put(many, many-1, last)
		for _, at := range append(noPlaces(many), 0, many-1, many) {
			Next(p, at)
			Safe(p, at)
			Reach(p, at)
			Loops(p, at)
		}
	}
}
