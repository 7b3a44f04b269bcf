package kind

import (
	"math"
	"testing"
)

func wantSize(t *testing.T, types []string, of, want int) {
	t.Helper()
	if got := Size(types, of); got != want {
		t.Errorf("Size(%q, %d) = %d, want %d", types, of, got, want)
	}
}

func wantMask(t *testing.T, types []string, of int, want uint8) {
	t.Helper()
	if got := Mask(types, of); got != want {
		t.Errorf("Mask(%q, %d) = %b, want %b", types, of, got, want)
	}
}

func wantTo(t *testing.T, types []string, of, field, want int) {
	t.Helper()
	if got := To(types, of, field); got != want {
		t.Errorf("To(%q, %d, %d) = %d, want %d", types, of, field, got, want)
	}
}

// wantNoType is what P3.2 and P3.3 say of a t that is none of the types.
func wantNoType(t *testing.T, types []string, of int) {
	t.Helper()
	wantSize(t, types, of, 0)
	wantMask(t, types, of, 0)
	for field := -2; field < 9; field++ {
		wantTo(t, types, of, field, -1)
	}
	wantReach(t, types, of)
}

// farOff is numbers that no type and no field has, and that come round to one when they are cut short.
func farOff() []int {
	return []int{-1, -2, -8, -256, 8, 9, 255, 256, 257, 1 << 16, 1<<16 + 1, 1 << 32, 1<<32 + 1, -1 << 32, math.MinInt, math.MinInt + 1, math.MaxInt}
}

// P3.2, example 1.
func TestFieldsExample(t *testing.T) {
	types := []string{"i1", "0"}
	wantSize(t, types, 0, 2)
	wantSize(t, types, 1, 1)
	wantMask(t, types, 0, 2)
	wantMask(t, types, 1, 1)
	wantTo(t, types, 0, 0, -1)
	wantTo(t, types, 0, 1, 1)
	wantTo(t, types, 1, 0, 0)
}

// P3.2: 1 to 6 fields.
func TestSize(t *testing.T) {
	types := []string{"i", "i0", "012", "iiii", "76543", "0i1i2i", "777777", "6"}
	for of, want := range []int{1, 2, 3, 4, 5, 6, 6, 1} {
		wantSize(t, types, of, want)
	}
}

// P3.2: of each choice of fields that are pointers, of each size; the digit does not matter, that of the type 0 neither.
func TestMaskOfEachChoice(t *testing.T) {
	for size := 1; size <= 6; size++ {
		for want := range 1 << size {
			for _, digit := range []byte("017") {
				letters := make([]byte, size)
				for k := range letters {
					letters[k] = 'i'
					if want>>k&1 == 1 {
						letters[k] = digit
					}
				}
				types := alike(8, "i")
				types[3] = string(letters)
				wantMask(t, types, 3, uint8(want))
				wantSize(t, types, 3, size)
				wantMask(t, types, 2, 0)
			}
		}
	}
}

// P3.2: each field to each type, with numbers around it.
func TestToEachType(t *testing.T) {
	for many := 1; many <= 8; many++ {
		for to := range many {
			for field := range 6 {
				letters := []byte("iiiiii")
				letters[field] = "01234567"[to]
				types := alike(many, "0")
				types[many-1] = string(letters)
				for k := range 6 {
					want := -1
					if k == field {
						want = to
					}
					wantTo(t, types, many-1, k, want)
				}
			}
		}
	}
}

// P3.2: a field of -1, the last one, and one more.
func TestToOfNoField(t *testing.T) {
	types := []string{"1", "i0", "00i", "4444", "i0i0i", "000000"}
	for of, letters := range types {
		last := len(letters) - 1
		want := -1
		if letters[last] != 'i' {
			want = int(letters[last] - '0')
		}
		wantTo(t, types, of, last, want)
		for field := last + 1; field < last+8; field++ {
			wantTo(t, types, of, field, -1)
		}
		for _, field := range farOff() {
			wantTo(t, types, of, field, -1)
		}
	}
}

// P3.2 and P3.3: a t of -1, 0, the last type, and one more.
func TestNoType(t *testing.T) {
	for many := 1; many <= 8; many++ {
		types := alike(many, "0i")
		for of := range many {
			wantSize(t, types, of, 2)
			wantMask(t, types, of, 1)
			wantTo(t, types, of, 0, 0)
		}
		wantNoType(t, types, -1)
		for of := many; of < many+8; of++ {
			wantNoType(t, types, of)
		}
		for _, of := range farOff() {
			wantNoType(t, types, of)
		}
	}
}

// P3.2 and P3.3: of types that may not be, whether the type that is asked for is the one that is wrong or not.
func TestFieldsOfWrongTypes(t *testing.T) {
	for _, types := range notRight() {
		for of := -1; of < 12; of++ {
			wantNoType(t, types, of)
		}
	}
}
