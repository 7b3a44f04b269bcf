package kind

import (
	"slices"
	"testing"
)

func wantReach(t *testing.T, types []string, of int, want ...int) {
	t.Helper()
	if got := Reach(types, of); !slices.Equal(got, want) {
		t.Errorf("Reach(%q, %d) = %v, want %v", types, of, got, want)
	}
}

// P3.3, example 1.
func TestReachExample(t *testing.T) {
	wantReach(t, []string{"i1", "0"}, 0, 0, 1)
	wantReach(t, []string{"i1", "0"}, 1, 1, 0)
}

// P3.3: by numbers one comes nowhere.
func TestReachByNumbers(t *testing.T) {
	types := []string{"i", "iiiiii", "ii"}
	for of := range types {
		wantReach(t, types, of, of)
	}
}

// P3.3: a type that points to itself is told once.
func TestReachItself(t *testing.T) {
	wantReach(t, []string{"0"}, 0, 0)
	wantReach(t, []string{"000000"}, 0, 0)
	wantReach(t, []string{"i", "i11", "i"}, 1, 1)
	wantReach(t, []string{"i", "1i0", "i"}, 1, 1, 0)
}

// P3.3: each type once, whatever many ways go to it.
func TestReachByManyWays(t *testing.T) {
	types := []string{"1212", "3i3", "33", "i"}
	wantReach(t, types, 0, 0, 1, 2, 3)
	wantReach(t, types, 1, 1, 3)
	wantReach(t, types, 2, 2, 3)
	wantReach(t, types, 3, 3)
}

// P3.3: t is the first, and behind it the others rise, in whatever order one comes to them.
func TestReachRises(t *testing.T) {
	wantReach(t, []string{"i", "i", "i", "510", "i", "i"}, 3, 3, 0, 1, 5)
	wantReach(t, []string{"7", "6", "5", "4", "0", "1", "2", "3"}, 0, 0, 3, 4, 7)
	wantReach(t, []string{"7", "6", "5", "4", "0", "1", "2", "3"}, 6, 6, 1, 2, 5)
	wantReach(t, []string{"i", "0", "1", "2", "3", "4", "5", "6"}, 7, 7, 0, 1, 2, 3, 4, 5, 6)
	wantReach(t, []string{"1", "2", "3", "4", "5", "6", "7", "i"}, 0, 0, 1, 2, 3, 4, 5, 6, 7)
	wantReach(t, []string{"i", "i", "i", "i", "765210", "i", "i", "i"}, 4, 4, 0, 1, 2, 5, 6, 7)
}

// P3.3: each pointer of a type is followed, the first and the last one too.
func TestReachByEachField(t *testing.T) {
	for field := range 6 {
		letters := []byte("iiiiii")
		letters[field] = '2'
		types := []string{"i", string(letters), "i"}
		wantReach(t, types, 1, 1, 2)
		types[2] = "i0"
		wantReach(t, types, 1, 1, 0, 2)
	}
}

// P3.3: a ring of each size ends, and is all of it.
func TestReachInARing(t *testing.T) {
	for many := 1; many <= 8; many++ {
		var on, back []string
		for of := range many {
			on = append(on, "i"+string("01234567"[(of+1)%many]))
			back = append(back, string("01234567"[(of+many-1)%many])+"i")
		}
		for of := range many {
			want := []int{of}
			for other := range many {
				if other != of {
					want = append(want, other)
				}
			}
			wantReach(t, on, of, want...)
			wantReach(t, back, of, want...)
		}
	}
}

// P3.3: pointers are followed one way alone: nobody comes to a type that nothing points to, and it comes to others.
func TestReachNobodyPointsTo(t *testing.T) {
	types := []string{"i1", "0", "01i"}
	wantReach(t, types, 0, 0, 1)
	wantReach(t, types, 1, 1, 0)
	wantReach(t, types, 2, 2, 0, 1)
	two := []string{"1", "0", "3", "2", "i"}
	wantReach(t, two, 0, 0, 1)
	wantReach(t, two, 3, 3, 2)
	wantReach(t, two, 4, 4)
}

// P3.3: a t of -1, 0, the last type, and one more.
func TestReachOfNoType(t *testing.T) {
	for many := 1; many <= 8; many++ {
		types := alike(many, "i")
		for of := range many {
			wantReach(t, types, of, of)
		}
		wantReach(t, types, -1)
		wantReach(t, types, many)
	}
}

// wayTo tells whether one comes from a type to another by so many pointers at most, with nothing of the package.
func wayTo(types []string, from, to, most int) bool {
	if from == to {
		return true
	}
	if most == 0 {
		return false
	}
	for _, letter := range []byte(types[from]) {
		if letter != 'i' && wayTo(types, int(letter-'0'), to, most-1) {
			return true
		}
	}
	return false
}

func reachByWays(types []string, of int) []int {
	want := []int{of}
	for other := range types {
		// A way without a ring has fewer pointers than there are types.
		if other != of && wayTo(types, of, other, len(types)-1) {
			want = append(want, other)
		}
	}
	return want
}

// eachTypes tells of all lists of so many types, each of them one of these.
func eachTypes(many int, of []string, do func(types []string)) {
	types := make([]string, many)
	var from func(at int)
	from = func(at int) {
		if at == many {
			do(types)
			return
		}
		for _, letters := range of {
			types[at] = letters
			from(at + 1)
		}
	}
	from(0)
}

// P3.3.
func TestReachOfAllSmallTypes(t *testing.T) {
	eachTypes(3, []string{"i", "0", "1", "2", "i0", "1i", "02", "10", "21", "012"}, func(types []string) {
		for of := range types {
			wantReach(t, types, of, reachByWays(types, of)...)
		}
	})
	eachTypes(4, []string{"i", "0", "1", "2", "3", "03", "3i1"}, func(types []string) {
		for of := range types {
			wantReach(t, types, of, reachByWays(types, of)...)
		}
	})
}

// R6: what is handed in stays as it is, and no two answers share any memory.
func TestReachIsNewMemory(t *testing.T) {
	types := []string{"21", "0", "i"}
	first, second := Reach(types, 0), Reach(types, 0)
	for k := range first {
		first[k] = 9
	}
	_ = append(first, 9, 9, 9)
	if !slices.Equal(second, []int{0, 1, 2}) {
		t.Errorf("what is written in one answer is in the other one: %v", second)
	}
	wantReach(t, types, 0, 0, 1, 2)
	if !slices.Equal(types, []string{"21", "0", "i"}) {
		t.Errorf("the types were changed: %q", types)
	}
}

func FuzzTypes(f *testing.F) {
	f.Add("i1", "0", "", 3, "01", 0, 1)
	f.Add("000000", "i", "2", 3, "2", 2, 0)
	f.Add("iiiiiii", "8", "é", 9, "i", -1, 6)
	f.Fuzz(func(t *testing.T, a, b, c string, many int, s string, of, field int) {
		var types []string
		for k := range min(max(many, 0), 20) {
			types = append(types, []string{a, b, c}[k%3])
		}
		right := Right(types)
		if Refs(types, s) && !right {
			t.Errorf("Refs(%q, %q), and they may not be", types, s)
		}
		if !right || of < 0 || of >= len(types) {
			wantNoType(t, types, of)
			return
		}
		wantSize(t, types, of, len(types[of]))
		wantReach(t, types, of, reachByWays(types, of)...)
		to := To(types, of, field)
		if pointer := field >= 0 && field < 8 && Mask(types, of)>>field&1 == 1; pointer != (to >= 0) {
			t.Errorf("To(%q, %d, %d) = %d, and its mask is %b", types, of, field, to, Mask(types, of))
		}
	})
}
