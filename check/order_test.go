package check

import (
	"slices"
	"strings"
	"testing"

	"lockstitch/api"
)

// wrong is instructions that may not stand in base, with the error of each; of some of them two or three hold.
func wrong() map[api.Ins]api.Errno {
	return map[api.Ins]api.Errno{
		{}:                                api.ErrForm,
		{Op: 16, A: 8, N: -1}:             api.ErrForm,
		{Op: api.Jump, A: 8}:              api.ErrForm,
		{Op: api.Jump, N: -1}:             api.ErrJump,
		{Op: api.Jump, N: 201}:            api.ErrJump,
		{Op: api.Zero, A: 7, N: -1}:       api.ErrJump,
		{Op: api.Set, A: 8}:               api.ErrKind,
		{Op: api.New, A: 6}:               api.ErrKind,
		{Op: api.Move, A: 1, B: 2}:        api.ErrKind,
		{Op: api.LoadI, N: 1}:             api.ErrKind,
		{Op: api.StoreP, N: 4}:            api.ErrKind,
		{Op: api.LoadG, A: 1, B: 3}:       api.ErrKind,
		{Op: api.Jump, B: 1, N: -1}:       api.ErrForm, // and ErrJump
		{Op: api.Jump, C: 1, N: 201}:      api.ErrForm, // and ErrJump
		{Op: api.Zero, C: 1, N: -1}:       api.ErrForm, // and ErrJump
		{Op: api.Set, A: 8, C: 1}:         api.ErrForm, // and ErrKind
		{Op: api.New, A: 6, N: 1}:         api.ErrForm, // and ErrKind
		{Op: api.Zero, A: 8, B: 1}:        api.ErrForm, // and ErrKind
		{Op: api.Same, B: 2, N: -1}:       api.ErrForm, // and ErrKind
		{Op: api.Zero, A: 8, N: -1}:       api.ErrJump, // and ErrKind
		{Op: api.Zero, A: 255, N: 201}:    api.ErrJump, // and ErrKind
		{Op: api.Zero, A: 8, B: 9, N: -1}: api.ErrForm, // and both others
	}
}

// P5.2: of errors of one instruction it is ErrForm ahead of ErrJump, and that ahead of ErrKind.
func TestCheckOfErrorsOfOneInstruction(t *testing.T) {
	for i, e := range wrong() {
		wantIns(t, base(), i, e)
	}
}

// P5.2: of two instructions it is the first one, whatever the errors are.
func TestCheckOfErrorsOfTwoInstructions(t *testing.T) {
	fine := api.Ins{Op: api.Print}
	for first, e := range wrong() {
		for second := range wrong() {
			wantCheck(t, with(base(), first, second), 0, e)
			wantCheck(t, with(base(), fine, first, second, fine), 1, e)
			wantCheck(t, with(base(), fine, first, fine, second), 1, e)
		}
	}
}

// P5.2: the kinds are ahead of how many instructions there are, and both of them ahead of each instruction.
func TestCheckOfKindsAheadOfInstructions(t *testing.T) {
	many := func(n int, i api.Ins) []api.Ins { return slices.Repeat([]api.Ins{i}, n) }
	bad := []api.Prog{
		{Types: []string{"i1"}, Locals: "0"},
		{Types: nil},
		{Types: []string{"i"}, Locals: "1"},
		{Types: []string{"i"}, Globs: "1"},
		{Types: []string{"i"}, Locals: strings.Repeat("0", 9)},
		{Types: []string{"i"}, Globs: strings.Repeat("0", 5)},
	}
	for i, e := range wrong() {
		for _, p := range bad {
			for _, n := range []int{0, 1, 2, 200, 201, 300} {
				wantCheck(t, with(p, many(n, i)...), -1, api.ErrKind)
			}
		}
		wantCheck(t, with(base(), many(200, i)...), 0, e)
		wantCheck(t, with(base(), many(201, i)...), -1, api.ErrBig)
	}
	for _, p := range bad {
		for _, i := range right() {
			wantCheck(t, with(p, i), -1, api.ErrKind)
		}
	}
}
