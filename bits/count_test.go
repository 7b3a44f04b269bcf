package bits

import (
	"math"
	"testing"
)

// P14.2: nothing has none.
func TestCountOfNothing(t *testing.T) {
	for _, b := range []Bits{nil, {}, {0}, {0, 0, 0}} {
		wantCount(t, b, 0)
	}
}

// P14.2: a single number, wherever it is in a word.
func TestCountOfOne(t *testing.T) {
	for k := range 64 {
		wantCount(t, Bits{1 << k}, 1)
		wantCount(t, Bits{0, 0, 1 << k, 0}, 1)
		wantCount(t, Bits{all - 1<<k}, 63)
	}
}

// P14.2: words with all their bits, and words 0 between others.
func TestCountOfMany(t *testing.T) {
	wantCount(t, Bits{all}, 64)
	wantCount(t, Bits{all, all, all}, 192)
	wantCount(t, Bits{all, 0, 0, all, 0}, 128)
	wantCount(t, Bits{1, 0, 3, 0, 0, 7}, 6)
	wantCount(t, append(make(Bits, 1024), all), 64)
}

// P14.2: from a number that is in, itself.
func TestNextFromWhatIsIn(t *testing.T) {
	b := Bits{1 | 1<<5 | 1<<63, 1, 0, 0, 1 << 63}
	for _, i := range []int{0, 5, 63, 64, 319} {
		wantNext(t, b, i, i)
	}
	for i := range 128 {
		wantNext(t, Bits{all, all}, i, i)
	}
}

// P14.2: from a number that is not in, the next one, in its word or over words 0; none ahead of it.
func TestNextFromWhatIsNotIn(t *testing.T) {
	b := Bits{1 | 1<<5 | 1<<62, 0, 0, 2, 1 << 63}
	for _, c := range [][2]int{{1, 5}, {4, 5}, {6, 62}, {61, 62}, {63, 193}, {64, 193}, {127, 193}, {192, 193}, {194, 319}, {255, 319}, {256, 319}, {318, 319}} {
		wantNext(t, b, c[0], c[1])
	}
	wantNext(t, Bits{0, 0, 0, 1}, 0, 192)
	wantNext(t, append(make(Bits, 1024), 1), 0, 65536)
	wantNext(t, append(make(Bits, 1024), 1), 65535, 65536)
}

// P14.2: behind the last one there is none, though there be words 0 behind it.
func TestNextBehindTheLast(t *testing.T) {
	for _, b := range []Bits{{1 << 5}, {1 << 5, 0, 0}} {
		wantNext(t, b, 5, 5)
		for _, i := range []int{6, 63, 64, 127, 128, 65536, 1 << 32, 1<<32 + 5, 1 << 38, 1 << 62, math.MaxInt - 63, math.MaxInt - 1, math.MaxInt} {
			wantNext(t, b, i, -1)
		}
	}
	wantNext(t, Bits{1 << 63}, 64, -1)
	wantNext(t, Bits{all, all}, 128, -1)
}

// P14.2: from below 0, the least one of all.
func TestNextFromBelowZero(t *testing.T) {
	for _, i := range []int{-1, -2, -5, -59, -63, -64, -65, -128, -65536, -1 << 32, -1<<32 + 6, -1 << 62, math.MinInt, math.MinInt + 1, math.MinInt + 6} {
		wantNext(t, Bits{1}, i, 0)
		wantNext(t, Bits{1<<5 | 1<<6}, i, 5)
		wantNext(t, Bits{0, 1, 1}, i, 64)
		wantNext(t, nil, i, -1)
		wantNext(t, Bits{0, 0}, i, -1)
	}
}

// P14.2: of nothing there is none, wherever one begins.
func TestNextOfNothing(t *testing.T) {
	for _, b := range []Bits{nil, {}, {0}, {0, 0, 0}} {
		for _, i := range asked() {
			wantNext(t, b, i, -1)
		}
	}
}
