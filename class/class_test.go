package class

import (
	"math"
	"slices"
	"testing"
)

// chapterBlocks is the chapter's words written out: the first words of the blocks of the span 0, of each class.
func chapterBlocks(c int) []int {
	return [][]int{{1, 2, 3, 4, 5, 6, 7, 8}, {1, 3, 5, 7}, {1, 5}, {1}}[c]
}

// noClass is numbers that are no class, those too that come round to one when they are cut short, or shifted by.
func noClass() []int {
	return []int{-1, 4, 5, 7, 8, -2, -3, -4, -8, 31, 32, 33, 63, 64, 65, 128, 255, 256, 257, 259, -255, -256, 1 << 16, 1<<16 + 1, 1 << 32, 1<<32 + 3, -1 << 32, math.MaxInt, math.MaxInt - 1, math.MinInt, math.MinInt + 1, math.MinInt + 3}
}

// belowZero is numbers near 0 and far from it.
func belowZero() []int {
	return []int{-1, -2, -3, -7, -8, -9, -15, -16, -17, -255, -256, -1 << 20, -1<<20 - 1, -1 << 31, -1 << 32, -1<<32 + 1, -1 << 60, math.MinInt / 8, math.MinInt + 8, math.MinInt + 7, math.MinInt + 1, math.MinInt}
}

// spans is those that Blocks tells of: the first ones, some far on, and the last ones.
func spans() []int {
	return []int{0, 1, 2, 3, 7, 8, 63, 64, 511, 512, 1000, 8191, 8192, 65535, 65536, 1<<19 + 5, 1<<20 - 1, 1 << 20}
}

// spansBehind is those that are too far on for Blocks, up to the last one whose eight words are all ints.
func spansBehind() []int {
	return []int{1<<20 + 1, 1<<20 + 2, 1 << 21, 1 << 28, 1<<29 - 1, 1 << 29, 1 << 32, 1<<32 + 1, 1 << 60 / 2, 1<<60 - 2}
}

func wantOf(t *testing.T, n, want int) {
	t.Helper()
	if got := Of(n); got != want {
		t.Errorf("Of(%d) = %d, want %d", n, got, want)
	}
}

func wantWords(t *testing.T, c, want int) {
	t.Helper()
	if got := Words(c); got != want {
		t.Errorf("Words(%d) = %d, want %d", c, got, want)
	}
}

func wantBlocks(t *testing.T, span, c int, want ...int) {
	t.Helper()
	if got := Blocks(span, c); !slices.Equal(got, want) {
		t.Errorf("Blocks(%d, %d) = %v, want %v", span, c, got, want)
	}
}

func wantIn(t *testing.T, ptr, want int) {
	t.Helper()
	if got := In(ptr); got != want {
		t.Errorf("In(%d) = %d, want %d", ptr, got, want)
	}
}

func wantBegins(t *testing.T, ptr, c int, want bool) {
	t.Helper()
	if got := Begins(ptr, c); got != want {
		t.Errorf("Begins(%d, %d) = %t", ptr, c, got)
	}
}

// The chapter's example.
func TestExample(t *testing.T) {
	wantOf(t, 3, 2)
	wantWords(t, 2, 4)
	wantBlocks(t, 1, 2, 9, 13)
	wantIn(t, 13, 1)
	if Span != 8 {
		t.Errorf("a span has %d words", Span)
	}
}

// P13.1, P13.2: whatever is asked for, what is told is within its bounds, and each call agrees with the others.
func FuzzClass(f *testing.F) {
	f.Add(3, 13, 1, 2)
	f.Add(8, 8, 0, 3)
	f.Add(9, 0, 1<<20+1, 4)
	f.Add(math.MinInt, math.MaxInt, math.MinInt, math.MinInt)
	f.Fuzz(func(t *testing.T, n, ptr, span, c int) {
		if of := Of(n); of != -1 && (Words(of) < n || of > 0 && Words(of-1) >= n) || (of == -1) != (n < 1 || n > 8) {
			t.Errorf("Of(%d) = %d", n, of)
		}
		blocks := Blocks(span, c)
		if hasNone := span < 0 || span > 1<<20 || c < 0 || c > 3; hasNone != (len(blocks) == 0) {
			t.Errorf("Blocks(%d, %d) = %v", span, c, blocks)
		}
		for _, at := range blocks {
			wantIn(t, at, span)
			wantBegins(t, at, c, true)
		}
		of := In(ptr)
		if (of == -1) != (ptr < 1) || ptr >= 1 && (of < 0 || of > (ptr-1)/8 || ptr-8*of < 1 || ptr-8*of > 8) {
			t.Errorf("In(%d) = %d", ptr, of)
		}
		wantBegins(t, ptr, c, ptr >= 1 && c >= 0 && c <= 3 && slices.Contains(chapterBlocks(min(max(c, 0), 3)), ptr-8*of))
	})
}
