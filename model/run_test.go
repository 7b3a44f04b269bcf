package model

import (
	"math"
	"slices"
	"strconv"
	"strings"
	"testing"

	"lockstitch/api"
)

// Example 1.
func TestRunExample(t *testing.T) {
	p := api.Prog{Types: []string{"i"}, Locals: "0"}
	wantRun(t, with(p, api.Ins{Op: api.Set, N: 5}, api.Ins{Op: api.Print}), 2, []int64{5}, api.OK)
	wantRun(t, with(p, api.Ins{Op: api.Nil}, api.Ins{Op: api.LoadI}), 2, nil, api.ErrZero)
}

// each is each of the 15 operations, with what it does printed.
const each = `
set 0 5
set 1 -7
add 2 0 1
print 2
zero 2 19
jump 7
print 0
new 0
new 1
storei 0 3 0
storep 0 2 1
storep 1 2 0
loadp 1 0 2
loadp 1 1 2
same 7 0 1
print 7
loadi 6 1 3
print 6
zero 3 20
print 1
storeg 1 1
nil 0
loadg 0 1
same 7 0 1
print 7
nil 1
same 7 0 1
print 7
move 1 0
storei 1 0 2
loadi 5 0 0
print 5
`

// P6.2: a program that uses all of them; fuel that is as much as it needs, one less and one more.
func TestRunOfEachOperation(t *testing.T) {
	p := lines(t, each)
	ops := map[uint8]bool{}
	for _, i := range p.Code {
		ops[i.Op] = true
	}
	if len(ops) != 15 {
		t.Errorf("only %d operations", len(ops))
	}
	out := []int64{-2, 1, 5, 1, 0, -2}
	steps := len(p.Code) - 2 // two are jumped over
	wantRun(t, p, steps, out, api.OK)
	wantRun(t, p, steps+1, out, api.OK)
	wantRun(t, p, math.MaxInt, out, api.OK)
	wantRun(t, p, steps-1, out[:5], api.ErrFuel)
	wantRun(t, p, steps-2, out[:5], api.ErrFuel)
	wantRun(t, p, 3, nil, api.ErrFuel)
	wantRun(t, p, 4, out[:1], api.ErrFuel)
	if s := after(t, p); s.Steps != steps || !slices.Equal(s.Out, out) {
		t.Errorf("%+v", s)
	}
}

// listOf makes a list of so many objects, the last one first, prints what it finds from its head on, and then whether it came to nothing.
func listOf(many int) string {
	return "set 0 " + strconv.Itoa(many) + `
set 1 -1
zero 0 9
new 0
storei 0 0 0
storep 0 2 1
move 1 0
add 0 0 1
jump 2
nil 0
same 6 0 1
zero 6 13
jump 17
loadi 5 1 0
print 5
loadp 1 1 2
jump 10
print 6
`
}

// P6.2: a list, of none, of few and of many objects.
func TestRunOfAList(t *testing.T) {
	for _, many := range []int{0, 1, 2, 3, 10, 5000} {
		var found []int64
		for k := range many {
			found = append(found, int64(k+1))
		}
		p, steps := lines(t, listOf(many)), 8+13*many
		wantRun(t, p, steps, append(found, 1), api.OK)
		wantRun(t, p, steps+1, append(found, 1), api.OK)
		wantRun(t, p, math.MaxInt, append(found, 1), api.OK)
		wantRun(t, p, steps-1, found, api.ErrFuel)
	}
}

// P6.2: fuel of below 0, of 0, of one, and of just as much as each length needs.
func TestRunOfEachFuel(t *testing.T) {
	for many := 1; many <= 200; many++ {
		p := lines(t, strings.Repeat("print 0\n", many))
		wantRun(t, p, many, make([]int64, many), api.OK)
		wantRun(t, p, many+1, make([]int64, many), api.OK)
		wantRun(t, p, many-1, make([]int64, many-1), api.ErrFuel)
		wantRun(t, p, 0, nil, api.ErrFuel)
		for _, fuel := range []int{-1, -2, -many, -1 << 32, math.MinInt, math.MinInt + 1} {
			wantRun(t, p, fuel, nil, api.ErrArg)
		}
	}
	wantRun(t, lines(t, "print 0\nprint 0"), 1, []int64{0}, api.ErrFuel)
}

// P6.2: what never ends, with each fuel.
func TestRunWithoutEnd(t *testing.T) {
	for _, fuel := range []int{0, 1, 2, 3, 1000, 100000} {
		wantRun(t, lines(t, "jump 0"), fuel, nil, api.ErrFuel)
		wantRun(t, lines(t, "zero 0 0\nprint 0"), fuel, nil, api.ErrFuel)
		wantRun(t, lines(t, "print 0\njump 0"), fuel, make([]int64, (fuel+1)/2), api.ErrFuel)
		wantRun(t, lines(t, "new 0\njump 0"), fuel, nil, api.ErrFuel)
	}
	wantRun(t, lines(t, "jump 0"), 10_000_000, nil, api.ErrFuel)
}

// P6.2: fuel runs out just where the next step would be done, and where it would not.
func TestRunThatFollowsNothing(t *testing.T) {
	for _, follow := range []string{"loadi 7 0 0", "storei 0 3 0", "loadp 3 0 1", "storep 0 2 1"} {
		wantRun(t, lines(t, follow), 0, nil, api.ErrZero)
		wantRun(t, lines(t, follow), 1, nil, api.ErrZero)
		wantRun(t, lines(t, follow), -1, nil, api.ErrArg)
		p := lines(t, "set 0 3\nnew 1\nprint 0\nprint 0\n"+follow+"\nprint 0")
		for _, fuel := range []int{4, 5, 6, 7, 1000, math.MaxInt} {
			wantRun(t, p, fuel, []int64{3, 3}, api.ErrZero)
		}
		wantRun(t, p, 3, []int64{3}, api.ErrFuel)
		wantRun(t, p, 2, nil, api.ErrFuel)
		wantRun(t, p, 0, nil, api.ErrFuel)
		// One that is not come to does no harm.
		wantRun(t, lines(t, "print 0\njump 3\n"+follow+"\nprint 1"), 3, []int64{0, 0}, api.OK)
	}
}

// P6.2: a jump to the end is an end, too.
func TestRunThatJumpsToTheEnd(t *testing.T) {
	p := lines(t, "print 0\njump 3\nprint 1")
	wantRun(t, p, 1, []int64{0}, api.ErrFuel)
	wantRun(t, p, 2, []int64{0}, api.OK)
	wantRun(t, p, 3, []int64{0}, api.OK)
	p = lines(t, "set 0 0\nzero 0 4\nprint 1\nprint 1")
	wantRun(t, p, 1, nil, api.ErrFuel)
	wantRun(t, p, 2, nil, api.OK)
}

// P6.2: a program that may not be run, with each fuel, and with each error of the fuel.
func TestRunOfAWrongProgram(t *testing.T) {
	for _, p := range wrong() {
		for _, fuel := range []int{-1, 0, 1, 2, 3, 1000} {
			wantRun(t, p, fuel, nil, api.ErrArg)
		}
	}
	print0 := api.Ins{Op: api.Print}
	wantRun(t, with(base(), print0, api.Ins{Op: api.Set, A: 8}), 1, nil, api.ErrArg)
	wantRun(t, with(base(), print0, api.Ins{Op: api.Jump, N: 3}), 1, nil, api.ErrArg)
	wantRun(t, with(base(), slices.Repeat([]api.Ins{print0}, 201)...), 201, nil, api.ErrArg)
	wantRun(t, with(base(), slices.Repeat([]api.Ins{print0}, 200)...), 200, make([]int64, 200), api.OK)
}
