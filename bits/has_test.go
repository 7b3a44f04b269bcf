package bits

import (
	"math"
	"testing"
)

// P14.1: numbers in the first word.
func TestHasInTheFirstWord(t *testing.T) {
	b := Bits{1 | 1<<5 | 1<<63}
	for i := range 64 {
		wantHas(t, b, i, i == 0 || i == 5 || i == 63)
	}
}

// P14.1: at both sides of a word's end.
func TestHasAtAWordsEnd(t *testing.T) {
	wantHas(t, Bits{1 << 63, 0}, 63, true)
	wantHas(t, Bits{1 << 63, 0}, 64, false)
	wantHas(t, Bits{1 << 63, 0}, 127, false)
	wantHas(t, Bits{0, 1}, 63, false)
	wantHas(t, Bits{0, 1}, 64, true)
	wantHas(t, Bits{0, 1}, 0, false)
	wantHas(t, Bits{1, 1 << 63, 1}, 127, true)
	wantHas(t, Bits{1, 1 << 63, 1}, 128, true)
	wantHas(t, Bits{1, 1 << 63, 1}, 129, false)
}

// P14.1: behind the last word there is nothing.
func TestHasBehindTheLastWord(t *testing.T) {
	b := Bits{all, all}
	for _, i := range []int{128, 129, 191, 192, 256, 65535, 65536, 1 << 20, 1 << 32, 1<<32 + 1, 1 << 38, 1 << 62, math.MaxInt - 63, math.MaxInt - 1, math.MaxInt} {
		wantHas(t, b, i, false)
		wantHas(t, Bits{all, all, 0, 0}, i, false)
	}
}

// P14.1: words from the number 65536 on count as others do.
func TestHasFarOn(t *testing.T) {
	b := append(make(Bits, 1024), 2)
	wantHas(t, b, 65536, false)
	wantHas(t, b, 65537, true)
	wantHas(t, b, 1, false)
}

// P14.1: no number below 0 is in any.
func TestHasBelowZero(t *testing.T) {
	for _, b := range []Bits{nil, {0}, {all}, {all, all, all}} {
		for i := -300; i < 0; i++ {
			wantHas(t, b, i, false)
		}
		for _, i := range []int{-65536, -1 << 32, -1<<32 + 1, -1 << 62, math.MinInt, math.MinInt + 1, math.MinInt + 64} {
			wantHas(t, b, i, false)
		}
	}
}

// P14.1: nothing has nothing, and a word 0 at the end has nothing.
func TestHasOfNothing(t *testing.T) {
	for _, b := range []Bits{nil, {}, {0}, {0, 0}} {
		for _, i := range asked() {
			wantHas(t, b, i, false)
		}
	}
	wantHas(t, Bits{4, 0}, 2, true)
	wantHas(t, Bits{4, 0}, 66, false)
}
