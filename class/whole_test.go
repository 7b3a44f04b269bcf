package class

import "testing"

// owners is of each word how many blocks of a span have it.
func owners(span, c int) map[int]int {
	has := map[int]int{}
	for _, ptr := range Blocks(span, c) {
		for k := range Words(c) {
			has[ptr+k]++
		}
	}
	return has
}

// P13.3: each of the span's eight words is in one block, and no other word is in any.
func TestBlocksAreTheWholeSpan(t *testing.T) {
	for _, span := range spans() {
		for c := range 4 {
			has := owners(span, c)
			for k := 1; k <= Span; k++ {
				if has[Span*span+k] != 1 {
					t.Errorf("span %d, class %d: the word %d is in %d blocks", span, c, Span*span+k, has[Span*span+k])
				}
			}
			if len(has) != 8 {
				t.Errorf("span %d, class %d: blocks have %d words", span, c, len(has))
			}
		}
	}
}

// P13.2, P13.3: they rise, each is of the span, and the next one begins where the one ahead of it ends.
func TestBlocksRiseAndDoNotMeet(t *testing.T) {
	for _, span := range spans() {
		for c := range 4 {
			next := 8*span + 1
			for _, ptr := range Blocks(span, c) {
				if ptr != next {
					t.Errorf("span %d, class %d: a block at %d, and not at %d", span, c, ptr, next)
				}
				wantIn(t, ptr, span)
				wantIn(t, ptr+Words(c)-1, span)
				next = ptr + Words(c)
			}
			if next != 8*span+9 {
				t.Errorf("span %d, class %d: the last block ends at %d", span, c, next)
			}
		}
	}
}

// P13.3: blocks of spans that are side by side do not meet, whatever classes these are of.
func TestBlocksOfTwoSpansDoNotMeet(t *testing.T) {
	for _, span := range spans()[:10] {
		for c := range 4 {
			for d := range 4 {
				own := owners(span, c)
				for word := range owners(span+1, d) {
					if own[word] != 0 {
						t.Errorf("the word %d is in a block of the span %d and in one of the next", word, span)
					}
				}
			}
		}
	}
}

// P13.1, P13.3: an object of any size, at any block of its class, has all its words in its span, and in that block alone.
func TestObjectsHaveRoomInTheirBlocks(t *testing.T) {
	for _, span := range spans() {
		for n := 1; n <= 8; n++ {
			c := Of(n)
			for at, ptr := range Blocks(span, c) {
				for k := range n {
					wantIn(t, ptr+k, span)
					wantBegins(t, ptr+k, c, k == 0)
				}
				if blocks := Blocks(span, c); at+1 < len(blocks) && ptr+n > blocks[at+1] {
					t.Errorf("span %d: an object of %d words at %d is in the next block, too", span, n, ptr)
				}
			}
		}
	}
}
