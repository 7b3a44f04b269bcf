package check

import (
	"math"
	"slices"
	"strings"
	"testing"

	"lockstitch/api"
)

func wantCheck(t *testing.T, p api.Prog, at int, e api.Errno) {
	t.Helper()
	if gotAt, gotE := Check(p); gotAt != at || gotE != e {
		t.Errorf("Check = %d, %d; want %d, %d: types %q, locals %.60q, globals %.60q, %d instructions %.300v", gotAt, gotE, at, e, p.Types, p.Locals, p.Globs, len(p.Code), p.Code)
	}
}

func wantOK(t *testing.T, p api.Prog) {
	t.Helper()
	wantCheck(t, p, -1, api.OK)
}

// base is a program of three types, without instructions: of the type 0 the fields are a number, a pointer to 1, one to 0 and a number, of 1 a pointer to 0, of 2 two numbers and a pointer to 2.
func base() api.Prog {
	return api.Prog{Types: []string{"i10i", "0", "ii2"}, Locals: "001122", Globs: "012"}
}

// with is a program with these instructions instead of its own.
func with(p api.Prog, code ...api.Ins) api.Prog {
	p.Code = code
	return p
}

// right is an instruction of each operation, in their order, that may stand in base.
func right() []api.Ins {
	return []api.Ins{
		{Op: api.Set, A: 7, N: math.MinInt64},
		{Op: api.Add, A: 1, B: 7, C: 0},
		{Op: api.Jump, N: 0},
		{Op: api.Zero, A: 3, N: 1},
		{Op: api.New, A: 5},
		{Op: api.Nil, A: 0},
		{Op: api.Move, A: 2, B: 3},
		{Op: api.LoadI, A: 7, B: 0, N: 3},
		{Op: api.StoreI, A: 4, B: 7, N: 1},
		{Op: api.LoadP, A: 2, B: 0, N: 1},
		{Op: api.StoreP, A: 3, B: 1, N: 0},
		{Op: api.LoadG, A: 1, B: 0},
		{Op: api.StoreG, A: 2, B: 5},
		{Op: api.Print, A: 7},
		{Op: api.Same, A: 7, B: 0, C: 1},
	}
}

// wantIns asks for that of an instruction alone, and of one behind, ahead of and among others that may be, up to the last of 200.
func wantIns(t *testing.T, p api.Prog, i api.Ins, e api.Errno) {
	t.Helper()
	print0 := api.Ins{Op: api.Print}
	for _, around := range [][2]int{{0, 0}, {0, 1}, {1, 0}, {3, 2}, {0, 199}, {199, 0}} {
		code := slices.Repeat([]api.Ins{print0}, around[0])
		code = append(code, i)
		code = append(code, slices.Repeat([]api.Ins{print0}, around[1])...)
		at := -1
		if e != api.OK {
			at = around[0]
		}
		wantCheck(t, with(p, code...), at, e)
	}
}

// Example 1.
func TestCheckExample(t *testing.T) {
	wantCheck(t, api.Prog{Types: []string{"i"}, Locals: "0", Code: []api.Ins{{Op: api.LoadP}}}, 0, api.ErrKind)
}

// P5.2: each of the operations, alone and all of them.
func TestCheckEachOperation(t *testing.T) {
	for k, i := range right() {
		if int(i.Op) != k+1 {
			t.Fatalf("the operation %d stands at %d", i.Op, k)
		}
		wantIns(t, base(), i, api.OK)
	}
	wantOK(t, with(base(), right()...))
	backward := right()
	slices.Reverse(backward)
	wantOK(t, with(base(), backward...))
}

// P5.2: types that may not be, whatever else there is.
func TestCheckOfWrongTypes(t *testing.T) {
	for _, types := range notRight() {
		for _, letters := range []string{"", "0", "x"} {
			wantCheck(t, api.Prog{Types: types, Locals: letters, Globs: letters, Code: []api.Ins{{Op: api.Print}}}, -1, api.ErrKind)
			wantCheck(t, api.Prog{Types: types, Locals: letters, Globs: letters}, -1, api.ErrKind)
		}
	}
	wantCheck(t, api.Prog{}, -1, api.ErrKind)
}

// P5.2: each letter of Locals and of Globs names a type, the last one too.
func TestCheckOfLetters(t *testing.T) {
	for many := 1; many <= 8; many++ {
		for b := range 256 {
			at, e := -1, api.ErrKind
			if strings.IndexByte("01234567"[:many], byte(b)) >= 0 {
				e = api.OK
			}
			for _, letters := range []string{string([]byte{byte(b)}), string([]byte{'0', byte(b)}), string([]byte{byte(b), '0', '0', '0'}), string([]byte{'0', '0', '0', byte(b)})} {
				p := api.Prog{Types: sameTypes(many, "i"), Code: []api.Ins{{Op: api.Print}}}
				p.Locals = letters
				wantCheck(t, p, at, e)
				p.Locals, p.Globs = "", letters
				wantCheck(t, p, at, e)
				p.Locals = letters
				wantCheck(t, p, at, e)
			}
		}
	}
}

// P5.2: at most 8 letters in Locals, and 4 in Globs.
func TestCheckOfHowManyLetters(t *testing.T) {
	for locals := range 300 {
		for _, globs := range []int{0, 1, 3, 4, 5, 8, 9, 260} {
			e := api.OK
			if locals > 8 || globs > 4 {
				e = api.ErrKind
			}
			wantCheck(t, api.Prog{Types: []string{"i", "0"}, Locals: strings.Repeat("1", locals), Globs: strings.Repeat("0", globs), Code: []api.Ins{{Op: api.Print}}}, -1, e)
		}
	}
	for globs := range 300 {
		e := api.OK
		if globs > 4 {
			e = api.ErrKind
		}
		wantCheck(t, api.Prog{Types: []string{"i", "0"}, Globs: strings.Repeat("1", globs), Code: []api.Ins{{Op: api.Print}}}, -1, e)
	}
}

// P5.2: 1 to 200 instructions.
func TestCheckOfHowManyInstructions(t *testing.T) {
	for many := range 600 {
		e := api.OK
		if many < 1 || many > 200 {
			e = api.ErrBig
		}
		wantCheck(t, with(base(), slices.Repeat([]api.Ins{{Op: api.Print}}, many)...), -1, e)
		if many > 200 {
			wantCheck(t, with(base(), make([]api.Ins, many)...), -1, e)
		}
	}
	wantCheck(t, with(base(), slices.Repeat([]api.Ins{{Op: api.Print}}, 1<<16+1)...), -1, api.ErrBig)
}

// P5.2: an instruction that may not be, by its operation, and by what it has and should not.
func TestCheckOfWrongForm(t *testing.T) {
	for op := range 256 {
		if op < 1 || op > 15 {
			wantIns(t, base(), api.Ins{Op: uint8(op)}, api.ErrForm)
		}
	}
	for _, i := range []api.Ins{
		{Op: api.Set, B: 1}, {Op: api.Set, C: 1},
		{Op: api.Add, N: 1},
		{Op: api.Jump, A: 1}, {Op: api.Jump, B: 1}, {Op: api.Jump, C: 1},
		{Op: api.Zero, B: 1}, {Op: api.Zero, C: 1},
		{Op: api.New, B: 1}, {Op: api.New, C: 1}, {Op: api.New, N: 1},
		{Op: api.Nil, B: 1}, {Op: api.Nil, C: 1}, {Op: api.Nil, N: -1},
		{Op: api.Move, C: 1}, {Op: api.Move, N: 1},
		{Op: api.LoadI, C: 1}, {Op: api.StoreI, C: 1},
		{Op: api.LoadP, C: 1}, {Op: api.StoreP, C: 1},
		{Op: api.LoadG, C: 1}, {Op: api.LoadG, N: 1},
		{Op: api.StoreG, C: 1}, {Op: api.StoreG, N: 1},
		{Op: api.Print, B: 1}, {Op: api.Print, C: 1}, {Op: api.Print, N: 1},
		{Op: api.Same, N: 1},
	} {
		wantIns(t, base(), i, api.ErrForm)
	}
}

// P5.2: a jump to 0, to the end, and to each place between, and to none.
func TestCheckOfJumps(t *testing.T) {
	for _, many := range []int{1, 2, 3, 100, 199, 200} {
		for _, at := range []int{0, many / 2, many - 1} {
			for _, i := range []api.Ins{{Op: api.Jump}, {Op: api.Zero, A: 7}} {
				code := slices.Repeat([]api.Ins{{Op: api.Print}}, many)
				wantJump := func(n int64, is bool) {
					t.Helper()
					i.N = n
					code[at] = i
					if is {
						wantOK(t, with(base(), code...))
					} else {
						wantCheck(t, with(base(), code...), at, api.ErrJump)
					}
				}
				for n := range many + 1 {
					wantJump(int64(n), true)
				}
				end := int64(many)
				for _, n := range []int64{-1, -2, end + 1, end + 2, 201, -end, 256, 1 << 8, 1 << 16, 1 << 32, 1<<32 + 1, 1<<32 + end, -1 << 32, math.MaxInt64, math.MinInt64} {
					wantJump(n, false)
				}
			}
		}
	}
}

// P5.2: an N that is no jump's is not held against the places.
func TestCheckOfNumbersThatAreNoJump(t *testing.T) {
	for _, n := range []int64{-1, 1, 2, 201, 1 << 32, math.MaxInt64, math.MinInt64} {
		wantIns(t, base(), api.Ins{Op: api.Set, N: n}, api.OK)
	}
}

// P5.2: an x that is not 0 to 7, wherever it is named.
func TestCheckOfInts(t *testing.T) {
	for x := range 256 {
		at, e := -1, api.OK
		if x > 7 {
			at, e = 0, api.ErrKind
		}
		n := uint8(x)
		for _, i := range []api.Ins{
			{Op: api.Set, A: n, N: 5},
			{Op: api.Add, A: n, B: 1, C: 2},
			{Op: api.Add, A: 1, B: n, C: 2},
			{Op: api.Add, A: 1, B: 2, C: n},
			{Op: api.Add, A: n, B: n, C: n},
			{Op: api.Zero, A: n},
			{Op: api.LoadI, A: n, B: 4},
			{Op: api.StoreI, A: 4, B: n},
			{Op: api.Print, A: n},
			{Op: api.Same, A: n, B: 2, C: 3},
		} {
			wantCheck(t, with(base(), i), at, e)
		}
	}
	for _, i := range right() {
		for _, n := range []uint8{7, 8, 255} {
			e := api.OK
			if n > 7 {
				e = api.ErrKind
			}
			for _, name := range namesOf(i.Op) {
				if name[0] == 'x' {
					wantIns(t, base(), set(i, name[1], n), e)
				}
			}
		}
	}
}

// set is i with another number at that letter.
func set(i api.Ins, letter byte, n uint8) api.Ins {
	switch letter {
	case 'A':
		i.A = n
	case 'B':
		i.B = n
	case 'C':
		i.C = n
	}
	return i
}

// P5.2: a p and a g that are the last ones, and one behind them, of each number of them, wherever they are named.
func TestCheckOfPointersAndGlobals(t *testing.T) {
	for locals := range 9 {
		for globs := range 5 {
			// All are of one type, with a pointer to itself, so that only whether they are there matters.
			p := api.Prog{Types: []string{"i0"}, Locals: strings.Repeat("0", locals), Globs: strings.Repeat("0", globs)}
			for op := 1; op <= 15; op++ {
				i := api.Ins{Op: uint8(op)}
				if i.Op == api.LoadP || i.Op == api.StoreP {
					i.N = 1
				}
				for _, name := range namesOf(i.Op) {
					for _, n := range []int{0, 1, 2, 3, 4, 5, 6, 7, 8, locals - 1, locals, globs - 1, globs, 127, 128, 255} {
						if name == "N" || n < 0 {
							continue
						}
						named := with(p, set(i, name[1], uint8(n)))
						at, e := checkByChapter(named)
						wantCheck(t, named, at, e)
					}
				}
			}
		}
	}
	all := api.Prog{Types: []string{"i"}, Locals: "00000000", Globs: "0000"}
	wantIns(t, all, api.Ins{Op: api.New, A: 7}, api.OK)
	wantIns(t, all, api.Ins{Op: api.New, A: 8}, api.ErrKind)
	wantIns(t, all, api.Ins{Op: api.LoadG, A: 7, B: 3}, api.OK)
	wantIns(t, all, api.Ins{Op: api.LoadG, A: 7, B: 4}, api.ErrKind)
	wantIns(t, all, api.Ins{Op: api.LoadG, A: 8, B: 3}, api.ErrKind)
	wantIns(t, all, api.Ins{Op: api.StoreG, A: 3, B: 7}, api.OK)
	wantIns(t, all, api.Ins{Op: api.StoreG, A: 4, B: 7}, api.ErrKind)
	wantIns(t, all, api.Ins{Op: api.StoreG, A: 3, B: 8}, api.ErrKind)
}

// P5.2: two that are not there are not of one type.
func TestCheckOfTwoThatAreNotThere(t *testing.T) {
	p := api.Prog{Types: []string{"i0"}, Locals: "0", Globs: "0"}
	bare := api.Prog{Types: []string{"i0"}}
	for _, i := range []api.Ins{
		{Op: api.Move, A: 1, B: 1},
		{Op: api.Move, A: 1, B: 2},
		{Op: api.Same, B: 1, C: 1},
		{Op: api.LoadG, A: 1, B: 1},
		{Op: api.StoreG, A: 1, B: 1},
		{Op: api.LoadP, A: 1, B: 0, N: 0},
		{Op: api.LoadP, A: 1, B: 0, N: 2},
		{Op: api.LoadP, A: 1, B: 1, N: 1},
		{Op: api.StoreP, A: 0, B: 1, N: 0},
		{Op: api.StoreP, A: 0, B: 1, N: 2},
		{Op: api.StoreP, A: 1, B: 1, N: 1},
		{Op: api.LoadI, B: 1},
		{Op: api.LoadI, B: 1, N: -1},
		{Op: api.StoreI, A: 1},
	} {
		wantIns(t, p, i, api.ErrKind)
		wantIns(t, bare, i, api.ErrKind)
	}
}

// P5.2: p and g of one type, and of others.
func TestCheckOfOneType(t *testing.T) {
	for a := range 6 {
		for b := range 6 {
			e := api.OK
			if base().Locals[a] != base().Locals[b] {
				e = api.ErrKind
			}
			wantIns(t, base(), api.Ins{Op: api.Move, A: uint8(a), B: uint8(b)}, e)
			wantIns(t, base(), api.Ins{Op: api.Same, A: 3, B: uint8(a), C: uint8(b)}, e)
			// x[a] of a Same is no pointer, so that its type is not asked.
			wantIns(t, base(), api.Ins{Op: api.Same, A: uint8(b), B: uint8(a), C: uint8(a)}, api.OK)
		}
		for g := range 3 {
			e := api.OK
			if base().Locals[a] != base().Globs[g] {
				e = api.ErrKind
			}
			wantIns(t, base(), api.Ins{Op: api.LoadG, A: uint8(a), B: uint8(g)}, e)
			wantIns(t, base(), api.Ins{Op: api.StoreG, A: uint8(g), B: uint8(a)}, e)
		}
	}
}

// farOff is numbers that no field has, and that come round to one when they are cut short.
func farOff() []int64 {
	return []int64{-1, -2, -8, 6, 7, 8, 255, 256, -256, 257, 1 << 16, 1<<16 + 1, 1 << 32, 1<<32 + 1, 1<<32 + 2, -1 << 32, math.MinInt64, math.MinInt64 + 1, math.MaxInt64}
}

// P5.2: the field is there, the last one too, and a number, or a pointer to that type.
func TestCheckOfFields(t *testing.T) {
	types := base().Types
	letters := base().Locals
	for a := range 6 {
		fields := types[letters[a]-'0']
		for b := range 6 {
			wantField := func(n int64, letter string) {
				t.Helper()
				toInt, toP := api.ErrKind, api.ErrKind
				if letter == "i" {
					toInt = api.OK
				} else if letter == letters[b:b+1] {
					toP = api.OK
				}
				of, other := uint8(a), uint8(b)
				wantIns(t, base(), api.Ins{Op: api.LoadI, A: other, B: of, N: n}, toInt)
				wantIns(t, base(), api.Ins{Op: api.StoreI, A: of, B: other, N: n}, toInt)
				wantIns(t, base(), api.Ins{Op: api.LoadP, A: other, B: of, N: n}, toP)
				wantIns(t, base(), api.Ins{Op: api.StoreP, A: of, B: other, N: n}, toP)
			}
			for k := range len(fields) {
				wantField(int64(k), fields[k:k+1])
			}
			for _, n := range append(farOff(), int64(len(fields))) {
				wantField(n, "none")
			}
		}
	}
}

// P5.2: the last field and one behind it, of each size.
func TestCheckOfTheLastField(t *testing.T) {
	for size := 1; size <= 6; size++ {
		n := int64(size)
		numbers := api.Prog{Types: []string{strings.Repeat("i", size)}, Locals: "0"}
		wantIns(t, numbers, api.Ins{Op: api.LoadI, N: n - 1}, api.OK)
		wantIns(t, numbers, api.Ins{Op: api.StoreI, N: n - 1}, api.OK)
		wantIns(t, numbers, api.Ins{Op: api.LoadP, N: n - 1}, api.ErrKind)
		wantIns(t, numbers, api.Ins{Op: api.StoreP, N: n - 1}, api.ErrKind)
		pointers := api.Prog{Types: []string{strings.Repeat("0", size)}, Locals: "0"}
		wantIns(t, pointers, api.Ins{Op: api.LoadP, N: n - 1}, api.OK)
		wantIns(t, pointers, api.Ins{Op: api.StoreP, N: n - 1}, api.OK)
		wantIns(t, pointers, api.Ins{Op: api.LoadI, N: n - 1}, api.ErrKind)
		wantIns(t, pointers, api.Ins{Op: api.StoreI, N: n - 1}, api.ErrKind)
		for _, p := range []api.Prog{numbers, pointers} {
			for _, op := range []uint8{api.LoadI, api.StoreI, api.LoadP, api.StoreP} {
				wantIns(t, p, api.Ins{Op: op, N: n}, api.ErrKind)
				wantIns(t, p, api.Ins{Op: op, N: -1}, api.ErrKind)
			}
		}
	}
}

// P5.2: each operation with each small A, B, C and N, of three programs.
func TestCheckOfAllSmallInstructions(t *testing.T) {
	progs := []api.Prog{
		{Types: []string{"i10", "0i"}, Locals: "0110", Globs: "10"},
		{Types: []string{"i"}, Locals: "", Globs: ""},
		{Types: []string{"2", "i", "01"}, Locals: "210", Globs: "2"},
	}
	for _, p := range progs {
		for op := range 18 {
			for abc := range 6 * 6 * 6 {
				for _, n := range []int64{0, 1, 2, 3, -1} {
					// 8 stands in for 5, so that an x that is not there is among them.
					of := []uint8{0, 1, 2, 3, 4, 8}
					i := api.Ins{Op: uint8(op), A: of[abc%6], B: of[abc/6%6], C: of[abc/36], N: n}
					named := with(p, i)
					at, e := checkByChapter(named)
					wantCheck(t, named, at, e)
				}
			}
		}
	}
}

// R6: what is handed in stays as it is.
func TestCheckChangesNothing(t *testing.T) {
	p := with(base(), right()...)
	Check(p)
	Need(p)
	Local(p, 0)
	Glob(p, 0)
	if !slices.Equal(p.Types, base().Types) || !slices.Equal(p.Code, right()) {
		t.Errorf("the program was changed: %+v", p)
	}
}
