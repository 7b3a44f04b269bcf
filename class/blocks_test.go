package class

import (
	"math"
	"slices"
	"testing"
)

// P13.2: the spans 0 and 1, of each class, by hand.
func TestBlocksOfTheFirstSpans(t *testing.T) {
	wantBlocks(t, 0, 0, 1, 2, 3, 4, 5, 6, 7, 8)
	wantBlocks(t, 0, 1, 1, 3, 5, 7)
	wantBlocks(t, 0, 2, 1, 5)
	wantBlocks(t, 0, 3, 1)
	wantBlocks(t, 1, 0, 9, 10, 11, 12, 13, 14, 15, 16)
	wantBlocks(t, 1, 1, 9, 11, 13, 15)
	wantBlocks(t, 1, 2, 9, 13)
	wantBlocks(t, 1, 3, 9)
}

// P13.2: a span far on, and the last one of which there are any.
func TestBlocksFarOn(t *testing.T) {
	wantBlocks(t, 511, 0, 4089, 4090, 4091, 4092, 4093, 4094, 4095, 4096)
	wantBlocks(t, 511, 2, 4089, 4093)
	wantBlocks(t, 1<<20, 0, 8388609, 8388610, 8388611, 8388612, 8388613, 8388614, 8388615, 8388616)
	wantBlocks(t, 1<<20, 1, 8388609, 8388611, 8388613, 8388615)
	wantBlocks(t, 1<<20, 2, 8388609, 8388613)
	wantBlocks(t, 1<<20, 3, 8388609)
	for _, span := range spans() {
		for c := range 4 {
			want := chapterBlocks(c)
			for k := range want {
				want[k] += 8 * span
			}
			wantBlocks(t, span, c, want...)
		}
	}
}

// P13.2: no span below 0 has any, and none above 2^20; no number that is no class gives any.
func TestNoBlocks(t *testing.T) {
	for _, span := range slices.Concat(belowZero(), spansBehind(), []int{1 << 60, 1 << 61, math.MaxInt / 8, math.MaxInt - 1, math.MaxInt}) {
		for c := range 4 {
			wantBlocks(t, span, c)
		}
		for _, c := range noClass() {
			wantBlocks(t, span, c)
		}
	}
	for _, span := range spans() {
		for _, c := range noClass() {
			wantBlocks(t, span, c)
		}
	}
}

// P13.2: the first and the last word of a span.
func TestIn(t *testing.T) {
	for ptr := 1; ptr <= 8; ptr++ {
		wantIn(t, ptr, 0)
		wantIn(t, ptr+8, 1)
	}
	wantIn(t, 17, 2)
	wantIn(t, 4096, 511)
	wantIn(t, 4097, 512)
	for _, span := range slices.Concat(spans(), spansBehind()) {
		for k := 1; k <= 8; k++ {
			wantIn(t, 8*span+k, span)
		}
		wantIn(t, 8*span+9, span+1)
	}
}

// P13.2: the greatest int is the seventh word of its span.
func TestInOfTheGreatest(t *testing.T) {
	wantIn(t, math.MaxInt, math.MaxInt/8)
	wantIn(t, math.MaxInt-6, math.MaxInt/8)
	wantIn(t, math.MaxInt-7, math.MaxInt/8-1)
}

// P13.2: what is no word is in no span.
func TestInOfNoWord(t *testing.T) {
	for ptr := -300; ptr < 1; ptr++ {
		wantIn(t, ptr, -1)
	}
	for _, ptr := range belowZero() {
		wantIn(t, ptr, -1)
	}
}

// P13.2: each word of a span, with each class: told of those that Blocks tells, and of no others.
func TestBegins(t *testing.T) {
	for _, span := range spans() {
		for c := range 4 {
			blocks := Blocks(span, c)
			for k := 1; k <= 8; k++ {
				wantBegins(t, 8*span+k, c, slices.Contains(blocks, 8*span+k))
				wantBegins(t, 8*span+k, c, slices.Contains(chapterBlocks(c), k))
			}
		}
	}
}

// P13.2: of words behind those that Blocks tells of, too: each word is in a span.
func TestBeginsBehindBlocks(t *testing.T) {
	for _, span := range spansBehind() {
		for c := range 4 {
			for k := 1; k <= 8; k++ {
				wantBegins(t, 8*span+k, c, slices.Contains(chapterBlocks(c), k))
			}
		}
	}
	for c, want := range []bool{true, true, false, false} {
		wantBegins(t, math.MaxInt, c, want)
	}
	for c, want := range []bool{true, false, false, false} {
		wantBegins(t, math.MaxInt-1, c, want)
	}
	for c, want := range []bool{true, true, true, true} {
		wantBegins(t, math.MaxInt-6, c, want)
	}
}

// P13.2: what is no word is none's first one, though it is as far from one as blocks are from each other.
func TestBeginsOfNoWord(t *testing.T) {
	for ptr := -300; ptr < 1; ptr++ {
		for c := -1; c <= 4; c++ {
			wantBegins(t, ptr, c, false)
		}
	}
	for _, ptr := range belowZero() {
		for c := range 4 {
			wantBegins(t, ptr, c, false)
		}
		for _, c := range noClass() {
			wantBegins(t, ptr, c, false)
		}
	}
}

// P13.2: numbers that are no class have no blocks that begin anywhere.
func TestBeginsOfNoClass(t *testing.T) {
	for _, c := range noClass() {
		for _, span := range slices.Concat(spans(), spansBehind()) {
			for k := 1; k <= 8; k++ {
				wantBegins(t, 8*span+k, c, false)
			}
		}
		wantBegins(t, 0, c, false)
		wantBegins(t, math.MaxInt, c, false)
	}
}

// R6: writing over what was answered, or behind it, changes no later answer, nor one that was given ahead of it.
func TestBlocksAreNewMemory(t *testing.T) {
	for _, span := range spans() {
		for c := range 4 {
			first, second := Blocks(span, c), Blocks(span, c)
			want := slices.Clone(second)
			for k := range first {
				first[k] = -5
			}
			_ = append(first[:0], -6)
			_ = append(first, -7, -8)
			if !slices.Equal(second, want) {
				t.Errorf("what is written in one answer is in the other one: %v", second)
			}
			wantBlocks(t, span, c, want...)
			wantBlocks(t, span, c, second...)
		}
	}
}
