package class

import (
	"math"
	"testing"
)

// P13.1: each size that an object's block may have.
func TestOfEachSize(t *testing.T) {
	for k, want := range []int{0, 1, 2, 2, 3, 3, 3, 3} {
		wantOf(t, k+1, want)
	}
}

// P13.1: 0, 9, and all others have no class.
func TestOfNoSize(t *testing.T) {
	for n := -300; n < 1; n++ {
		wantOf(t, n, -1)
	}
	for n := 9; n < 300; n++ {
		wantOf(t, n, -1)
	}
	for _, n := range belowZero() {
		wantOf(t, n, -1)
	}
	for _, n := range []int{1 << 8, 1<<8 + 1, 1 << 16, 1<<16 + 8, 1<<31 - 1, 1 << 31, 1 << 32, 1<<32 + 1, 1<<32 + 8, 1 << 62, math.MaxInt - 8, math.MaxInt - 1, math.MaxInt} {
		wantOf(t, n, -1)
	}
}

// P13.1: each class.
func TestWordsOfEachClass(t *testing.T) {
	for c, want := range []int{1, 2, 4, 8} {
		wantWords(t, c, want)
	}
}

// P13.1: -1, 4, and numbers far off.
func TestWordsOfNoClass(t *testing.T) {
	for c := -300; c < 0; c++ {
		wantWords(t, c, 0)
	}
	for c := 4; c < 300; c++ {
		wantWords(t, c, 0)
	}
	for _, c := range noClass() {
		wantWords(t, c, 0)
	}
}

// P13.1: an object has room in a block of its class, and in none of a lesser one.
func TestOfIsTheLeastThatHasRoom(t *testing.T) {
	for n := 1; n <= 8; n++ {
		own := Of(n)
		for c := range 4 {
			if hasRoom := Words(c) >= n; hasRoom != (c >= own) {
				t.Errorf("%d words: the class %d has blocks of %d, and Of is %d", n, c, Words(c), own)
			}
		}
	}
	for c := range 4 {
		wantOf(t, Words(c), c)
	}
}
