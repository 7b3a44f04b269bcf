package fresh

import (
	"testing"

	"lockstitch/api"
)

// put is a program of prints, but for this instruction at that place.
func put(many, at int, i api.Ins) api.Prog {
	code := repeat(api.Ins{Op: api.Print}, many)
	code[at] = i
	return with(code...)
}

// P9.1: each operation by hand, with other numbers in N and C, which say nothing but of a jump; of it: N is behind the place.
func TestEachOperation(t *testing.T) {
	for _, n := range []int64{3, 4, 5} {
		for _, c := range []struct {
			op                             uint8
			none, every, with1, with2, odd uint8
		}{
			{api.Set, 0, all, bits(1), bits(2), 0b10101010},
			{api.Add, 0, all, bits(1), bits(2), 0b10101010},
			{api.Jump, 0, all, bits(1), bits(2), 0b10101010},
			{api.Zero, 0, all, bits(1), bits(2), 0b10101010},
			{api.New, bits(1), bits(1), bits(1), bits(1), bits(1)},
			{api.Nil, bits(1), all, bits(1), bits(1, 2), 0b10101010},
			{api.Move, 0, all, 0, bits(1, 2), 0b10101000},
			{api.LoadI, 0, all, bits(1), bits(2), 0b10101010},
			{api.StoreI, 0, all, bits(1), bits(2), 0b10101010},
			{api.LoadP, 0, but(1), 0, bits(2), 0b10101000},
			{api.StoreP, 0, all, bits(1), bits(2), 0b10101010},
			{api.LoadG, 0, but(1), 0, bits(2), 0b10101000},
			{api.StoreG, 0, all, bits(1), bits(2), 0b10101010},
			{api.Print, 0, all, bits(1), bits(2), 0b10101010},
			{api.Same, 0, all, bits(1), bits(2), 0b10101010},
		} {
			for _, third := range []uint8{0, 1, 2, 7} {
				p := put(5, 2, api.Ins{Op: c.op, A: 1, B: 2, C: third, N: n})
				wantOut(t, p, 2, 0, c.none)
				wantOut(t, p, 2, all, c.every)
				wantOut(t, p, 2, bits(1), c.with1)
				wantOut(t, p, 2, bits(2), c.with2)
				wantOut(t, p, 2, 0b10101010, c.odd)
			}
		}
	}
}

// P9.1: each operation with all numbers in A and B, some in C and N, at other places, with each set ahead of it, against the second reading.
func TestAllNumbersAndSets(t *testing.T) {
	for op := uint8(1); op <= 15; op++ {
		for a := range uint8(8) {
			for b := range uint8(8) {
				for _, c := range []uint8{0, a, 7 - b} {
					for n := range int64(5) {
						for at := range 4 {
							p := put(4, at, api.Ins{Op: op, A: a, B: b, C: c, N: n})
							for in := range 256 {
								if got, want := Out(p, at, uint8(in)), chapterOut(p, at, uint8(in)); got != want {
									t.Fatalf("Out of %d with %08b = %08b, want %08b: %v", at, in, got, want, p.Code)
								}
							}
						}
					}
				}
			}
		}
	}
}

// P9.1: of what is no instruction's place it is what is handed in, whatever the instructions are.
func TestOutOfNoInstruction(t *testing.T) {
	const most = int(^uint(0) >> 1)
	for _, i := range []api.Ins{{Op: api.Print}, {Op: api.New}, {Op: api.LoadP, A: 1, N: 1}, {Op: api.LoadG, A: 1}, {Op: api.Move}, jump(0), zero(0), {Op: api.Nil, A: 7}} {
		for _, many := range []int{0, 1, 3, api.Most} {
			p := with(repeat(i, many)...)
			for in := range 256 {
				for _, at := range []int{many, many + 1, many + 2, many + 200, -1, -2, -many - 1, 1 << 32, -1 << 32, most, -most, -most - 1} {
					wantOut(t, p, at, uint8(in), uint8(in))
				}
			}
		}
	}
}

// P9.1: behind a safepoint nothing is left; a jump ahead is none.
func TestOutOfSafepoints(t *testing.T) {
	for at := range 4 {
		for to := range 5 {
			for _, i := range []api.Ins{jump(to), zero(to)} {
				p := put(4, at, i)
				wantRunnable(t, p)
				for in := range 256 {
					want := uint8(in)
					if to <= at {
						want = 0
					}
					wantOut(t, p, at, uint8(in), want)
				}
			}
		}
	}
	// Whether x[A] is a number that is a pointer local's, too, says nothing.
	for a := range uint8(8) {
		wantOut(t, with(api.Ins{Op: api.Zero, A: a, N: 1}), 0, 0b01011010, 0b01011010)
		wantOut(t, with(api.Ins{Op: api.Zero, A: a}), 0, 0b01011010, 0)
	}
}

// P9.1: behind a New there is what it made, and nothing else.
func TestOutOfNew(t *testing.T) {
	for a := range 8 {
		for in := range 256 {
			for at := range 3 {
				wantOut(t, put(3, at, api.Ins{Op: api.New, A: uint8(a)}), at, uint8(in), bits(a))
			}
		}
	}
}

// P9.1: a Move of what is new, and of what is not.
func TestOutOfMoves(t *testing.T) {
	for a := range 8 {
		for b := range 8 {
			p := with(api.Ins{Op: api.Move, A: uint8(a), B: uint8(b)})
			wantOut(t, p, 0, all, all)
			wantOut(t, p, 0, 0, 0)
			wantOut(t, p, 0, bits(b), bits(a, b))
			wantOut(t, p, 0, but(b), but(a, b))
		}
		// Of one local onto itself nothing changes.
		p := with(api.Ins{Op: api.Move, A: uint8(a), B: uint8(a)})
		for in := range 256 {
			wantOut(t, p, 0, uint8(in), uint8(in))
		}
	}
}

// P9.1: what is loaded is not new, of a new object neither, and where it is loaded onto what it is loaded of; a Nil is.
func TestOutOfLoadsAndNils(t *testing.T) {
	for a := range 8 {
		for b := range uint8(8) {
			for in := range 256 {
				for _, op := range []uint8{api.LoadP, api.LoadG} {
					wantOut(t, with(api.Ins{Op: op, A: uint8(a), B: b}), 0, uint8(in), uint8(in)&but(a))
				}
			}
		}
		for in := range 256 {
			wantOut(t, with(api.Ins{Op: api.Nil, A: uint8(a)}), 0, uint8(in), uint8(in)|bits(a))
		}
	}
}

// P9.1: Out looks at the instruction of its own place alone.
func TestOutOfItsOwnPlace(t *testing.T) {
	p := lines(t, "new 0\nnil 1\nloadg 0 0\nmove 4 0\nprint 0\njump 0\n")
	for at, want := range []uint8{bits(0), bits(0, 1), 0, bits(0, 4), bits(0), 0, bits(0)} {
		wantOut(t, p, at, bits(0), want)
	}
	for at, want := range []uint8{bits(0), bits(1, 7), bits(7), bits(7), bits(7), 0, bits(7)} {
		wantOut(t, p, at, bits(7), want)
	}
}

// P9.1: which pointer locals there are says nothing.
func TestOutOfFewLocals(t *testing.T) {
	p := api.Prog{Types: []string{"i"}, Locals: "0", Code: []api.Ins{{Op: api.Nil}, {Op: api.Print}, {Op: api.New}, {Op: api.Move}}}
	wantRunnable(t, p)
	wantOut(t, p, 0, 0b10101010, 0b10101011)
	wantOut(t, p, 1, 0b10101010, 0b10101010)
	wantOut(t, p, 2, 0b10101010, 1)
	wantOut(t, p, 3, 0b10101010, 0b10101010)
	p = api.Prog{Types: []string{"i"}, Code: []api.Ins{{Op: api.Print}, jump(0)}}
	wantRunnable(t, p)
	wantOut(t, p, 0, all, all)
	wantOut(t, p, 1, all, 0)
	wantOut(t, p, 2, all, all)
}
