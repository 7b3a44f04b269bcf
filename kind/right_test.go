package kind

import (
	"slices"
	"strings"
	"testing"
)

// wantRight asks Refs of no letters too, which is what Right is.
func wantRight(t *testing.T, want bool, types ...string) {
	t.Helper()
	if got := Right(types); got != want {
		t.Errorf("Right(%q) = %t", types, got)
	}
	if got := Refs(types, ""); got != want {
		t.Errorf("Refs(%q, no letters) = %t", types, got)
	}
}

func wantRefs(t *testing.T, types []string, s string, want bool) {
	t.Helper()
	if got := Refs(types, s); got != want {
		t.Errorf("Refs(%q, %.60q) = %t", types, s, got)
	}
}

// alike is so many types, each of the same letters.
func alike(many int, letters string) []string {
	return slices.Repeat([]string{letters}, many)
}

// notRight is a short list of types that may not be, each for one reason alone, for what the other calls answer then.
func notRight() [][]string {
	return [][]string{
		nil,
		{},
		alike(9, "i"),
		alike(9, "0"),
		{""},
		{"i1", "0", ""},
		{"", "i1", "0"},
		{"iiiiiii"},
		{"i1", "0", "iiiiiii"},
		{"0000000", "i1", "0"},
		{"1"},
		{"i1", "02"},
		{"i2", "0"},
		{"i1", "0", "i03i"},
		{"ix"},
		{"i1", "0", "I"},
		{"i1", "0-"},
		{"i1", "0 "},
		{"i1", "é"},
	}
}

// P3.1: types are 1 to 8.
func TestRightHowManyTypes(t *testing.T) {
	wantRight(t, false)
	wantRight(t, false, []string{}...)
	for many := 1; many <= 8; many++ {
		wantRight(t, true, alike(many, "i")...)
		wantRight(t, true, alike(many, "0i")...)
	}
	for _, many := range []int{9, 10, 11, 16, 17, 256, 257, 264, 1000} {
		wantRight(t, false, alike(many, "i")...)
		wantRight(t, false, alike(many, "0i")...)
	}
}

// P3.1: each type has 1 to 6 letters.
func TestRightHowManyLetters(t *testing.T) {
	for n := range 300 {
		for _, letter := range []string{"i", "0", "1"} {
			letters := strings.Repeat(letter, n)
			right := 1 <= n && n <= 6
			wantRight(t, right, letters, "i")
			wantRight(t, right, "i", letters)
			wantRight(t, right, "i", letters, "i")
		}
	}
}

// P3.1: each letter is i, or the digit of one of the types: the last one's, and not one more.
func TestRightEachLetter(t *testing.T) {
	for many := 1; many <= 8; many++ {
		may := "i" + "01234567"[:many]
		for b := range 256 {
			letter := string([]byte{byte(b)})
			right := strings.Contains(may, letter)
			for _, letters := range []string{letter, letter + "i", "i" + letter, "i" + letter + "0", "00000" + letter} {
				for at := range many {
					types := alike(many, "i")
					types[at] = letters
					wantRight(t, right, types...)
				}
			}
		}
	}
}

// P3.1: a type may point to itself, to each other, and all of them to all.
func TestRightOrdinary(t *testing.T) {
	wantRight(t, true, "i1", "0")
	wantRight(t, true, "0")
	wantRight(t, true, "000000")
	wantRight(t, true, "1", "2", "0")
	wantRight(t, true, "i", "i0i1i2", "iiiiii")
	wantRight(t, true, "012345", "234567", "45670i", "670123", "i", "i", "777777", "7")
}

// P3.1: a letter is a byte, so that other signs that look like digits, or like i, are none.
func TestRightOtherSigns(t *testing.T) {
	for _, letters := range []string{"I", "ı", "ï", "０", "٠", "i ", " i", "i\n", "\x00", "i\x000", "-1", "+0", "i,0", "8", "9", "a", "o", "\xff"} {
		wantRight(t, false, letters)
		wantRight(t, false, append(alike(7, "i"), letters)...)
	}
}

func TestRightOfWrongTypes(t *testing.T) {
	for _, types := range notRight() {
		wantRight(t, false, types...)
	}
}

// P3.1: types that may be, and each letter of s is the digit of one of them, however many letters there are.
func TestRefs(t *testing.T) {
	two := []string{"i1", "0"}
	for _, s := range []string{"", "0", "1", "00", "01", "10", "0110", strings.Repeat("01", 5000)} {
		wantRefs(t, two, s, true)
	}
	for _, s := range []string{"2", "i", "0i", "i1", "02", "20", "012", "-", "0 1", "0\n", "é", "０", "\x00", "\xff", "01234567", strings.Repeat("01", 5000) + "2", "2" + strings.Repeat("01", 5000)} {
		wantRefs(t, two, s, false)
	}
}

// P3.1: the last type's digit, and not one more.
func TestRefsEachLetter(t *testing.T) {
	for many := 1; many <= 8; many++ {
		may := "01234567"[:many]
		wantRefs(t, alike(many, "i"), may, true)
		for b := range 256 {
			letter := string([]byte{byte(b)})
			right := strings.Contains(may, letter)
			for _, s := range []string{letter, letter + "0", "0" + letter, "0" + letter + "0"} {
				wantRefs(t, alike(many, "i"), s, right)
				wantRefs(t, alike(many, "i0"), s, right)
			}
		}
	}
}

// P3.1: of types that may not be it is false, whatever the letters are.
func TestRefsOfWrongTypes(t *testing.T) {
	for _, types := range notRight() {
		for _, s := range []string{"", "0", "1", "01", "i", "8"} {
			wantRefs(t, types, s, false)
		}
	}
}
