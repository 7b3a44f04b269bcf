package check

import (
	"slices"
	"strings"
	"testing"

	"lockstitch/api"
)

func wantLocal(t *testing.T, p api.Prog, a uint8, want int) {
	t.Helper()
	if got := Local(p, a); got != want {
		t.Errorf("Local of %d = %d, want %d: types %q, locals %.60q, globals %.60q", a, got, want, p.Types, p.Locals, p.Globs)
	}
}

func wantGlob(t *testing.T, p api.Prog, a uint8, want int) {
	t.Helper()
	if got := Glob(p, a); got != want {
		t.Errorf("Glob of %d = %d, want %d: types %q, locals %.60q, globals %.60q", a, got, want, p.Types, p.Locals, p.Globs)
	}
}

func wantNeed(t *testing.T, p api.Prog, want int) {
	t.Helper()
	if got := Need(p); got != want {
		t.Errorf("Need = %d, want %d: types %q", got, want, p.Types)
	}
}

// wantLetters asks Local of a program that has these letters for its locals alone, and Glob of one that has them for its globals alone.
func wantLetters(t *testing.T, types []string, letters string, a uint8, want int) {
	t.Helper()
	wantLocal(t, api.Prog{Types: types, Locals: letters}, a, want)
	wantLocal(t, api.Prog{Types: types, Globs: letters}, a, -1)
	wantGlob(t, api.Prog{Types: types, Globs: letters}, a, want)
	wantGlob(t, api.Prog{Types: types, Locals: letters}, a, -1)
}

// sameTypes is so many types, each of the same letters.
func sameTypes(many int, letters string) []string {
	return slices.Repeat([]string{letters}, many)
}

// notRight is a short list of types that may not be.
func notRight() [][]string {
	return [][]string{
		nil,
		{},
		sameTypes(9, "i"),
		sameTypes(9, "0"),
		{""},
		{"i1", "0", ""},
		{"iiiiiii"},
		{"i1", "0", "iiiiiii"},
		{"1"},
		{"i1", "02"},
		{"ix"},
		{"i1", "0", "I"},
		{"i1", "0 "},
		{"i1", "é"},
	}
}

// P5.1.
func TestLocalAndGlobOrdinary(t *testing.T) {
	p := api.Prog{Types: []string{"i1", "0", "ii"}, Locals: "0121", Globs: "20"}
	for a, want := range []int{0, 1, 2, 1, -1, -1, -1, -1, -1} {
		wantLocal(t, p, uint8(a), want)
	}
	for a, want := range []int{2, 0, -1, -1, -1} {
		wantGlob(t, p, uint8(a), want)
	}
}

// P5.1: there is no such letter: the last one, and one behind it, of each number of letters, the greatest a among them.
func TestLocalAndGlobOfNoLetter(t *testing.T) {
	types := []string{"i", "1", "0"}
	for many := range 258 {
		letters := strings.Repeat("2", many)
		for a := range 256 {
			want := -1
			if a < many {
				want = 2
			}
			wantLetters(t, types, letters, uint8(a), want)
		}
	}
}

// P5.1: more letters than a program that may be run has are letters, too.
func TestLocalAndGlobOfManyLetters(t *testing.T) {
	types := []string{"i", "i", "i", "i", "i", "i", "i", "i"}
	letters := strings.Repeat("01234567", 32)
	for a := range 256 {
		wantLetters(t, types, letters, uint8(a), a%8)
		wantLetters(t, types, letters+"x", uint8(a), a%8)
	}
}

// P5.1: the last type's digit, and not one more; a letter is a byte.
func TestLocalAndGlobOfEachLetter(t *testing.T) {
	for many := 1; many <= 8; many++ {
		for b := range 256 {
			want := strings.IndexByte("01234567"[:many], byte(b))
			letter := string([]byte{byte(b)})
			wantLetters(t, sameTypes(many, "i"), letter, 0, want)
			wantLetters(t, sameTypes(many, "0i"), "0"+letter+"0", 1, want)
		}
	}
}

// P5.1: the letter alone is asked, whatever the others are.
func TestLocalAndGlobOfALetterAlone(t *testing.T) {
	types := []string{"i", "0"}
	for _, other := range []string{"x", "2", "i", "-", " ", "\x00", "\xff"} {
		wantLetters(t, types, other+"1"+other, 0, -1)
		wantLetters(t, types, other+"1"+other, 1, 1)
		wantLetters(t, types, other+"1"+other, 2, -1)
		wantLetters(t, types, other+"1"+other, 3, -1)
	}
	wantLetters(t, types, "é1", 0, -1)
	wantLetters(t, types, "é1", 1, -1)
	wantLetters(t, types, "é1", 2, 1)
	wantLetters(t, types, "é1", 3, -1)
}

// P5.1: of types that may not be, no letter names one, though it is the digit of one that would be.
func TestLocalAndGlobOfWrongTypes(t *testing.T) {
	for _, types := range notRight() {
		for a := range 10 {
			wantLetters(t, types, "01234567", uint8(a), -1)
			wantLetters(t, types, "", uint8(a), -1)
		}
	}
}

// P5.1: what else a program has does not matter.
func TestLocalAndGlobOfAProgramThatMayNotBeRun(t *testing.T) {
	p := api.Prog{Types: []string{"i", "0"}, Locals: "10x10101010", Globs: "xxxxxx0", Code: []api.Ins{{Op: 16}}}
	wantLocal(t, p, 0, 1)
	wantLocal(t, p, 10, 0)
	wantGlob(t, p, 0, -1)
	wantGlob(t, p, 6, 0)
	wantNeed(t, p, 1)
}

// P5.1: the greatest type, wherever it stands.
func TestNeed(t *testing.T) {
	wantNeed(t, api.Prog{Types: []string{"i"}}, 1)
	wantNeed(t, api.Prog{Types: []string{"i1", "0"}}, 2)
	wantNeed(t, api.Prog{Types: []string{"0", "1i"}}, 2)
	wantNeed(t, api.Prog{Types: []string{"i", "i0i0i0", "iii"}}, 6)
	for many := 1; many <= 8; many++ {
		for at := range many {
			for size := 1; size <= 6; size++ {
				for _, letter := range []string{"i", "0"} {
					types := sameTypes(many, "i")
					types[at] = strings.Repeat(letter, size)
					wantNeed(t, api.Prog{Types: types}, size)
				}
			}
		}
	}
}

// P5.1: 0, if the types may not be, though one of them would have a size.
func TestNeedOfWrongTypes(t *testing.T) {
	for _, types := range notRight() {
		wantNeed(t, api.Prog{Types: types}, 0)
		wantNeed(t, api.Prog{Types: types, Locals: "0", Globs: "0", Code: []api.Ins{{Op: api.New}}}, 0)
	}
	for many := 9; many < 300; many++ {
		wantNeed(t, api.Prog{Types: sameTypes(many, "iii")}, 0)
	}
}
