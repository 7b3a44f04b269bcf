package bits

import "testing"

// P14.3: each of the four ways in which a number may be in two sets.
func TestBothInOneWord(t *testing.T) {
	wantBoth(t, Bits{12}, Bits{10}, Bits{8}, Bits{14}, Bits{4})
	wantBoth(t, Bits{10}, Bits{12}, Bits{8}, Bits{14}, Bits{2})
	wantBoth(t, Bits{all}, Bits{1 << 63}, Bits{1 << 63}, Bits{all}, Bits{1<<63 - 1})
	wantBoth(t, Bits{12, 1 << 63}, Bits{10, 1<<63 | 1}, Bits{8, 1 << 63}, Bits{14, 1<<63 | 1}, Bits{4})
}

// P14.3: sets of unlike lengths, in both orders.
func TestBothOfUnlikeLengths(t *testing.T) {
	wantBoth(t, Bits{3, 5, 9}, Bits{6}, Bits{2}, Bits{7, 5, 9}, Bits{1, 5, 9})
	wantBoth(t, Bits{6}, Bits{3, 5, 9}, Bits{2}, Bits{7, 5, 9}, Bits{4})
	wantBoth(t, Bits{0, 0, 9}, Bits{6}, nil, Bits{6, 0, 9}, Bits{0, 0, 9})
	wantBoth(t, Bits{6}, Bits{0, 0, 9}, nil, Bits{6, 0, 9}, Bits{6})
	wantBoth(t, of(65535), Bits{1}, nil, append(append(Bits{1}, make(Bits, 1022)...), 1<<63), of(65535))
}

// P14.3: the same set twice.
func TestBothOfTheSame(t *testing.T) {
	for _, b := range sets() {
		short := of(numbers(b)...)
		wantBoth(t, b, b, short, short, nil)
		wantSame(t, b, b, true)
	}
}

// P14.3: with nothing, nil or words 0, in both orders: And has nothing, Or has the other one.
func TestBothWithNothing(t *testing.T) {
	for _, none := range []Bits{nil, {}, {0}, {0, 0, 0, 0}} {
		for _, b := range sets() {
			short := of(numbers(b)...)
			wantBoth(t, b, none, nil, short, short)
			wantBoth(t, none, b, nil, short, nil)
		}
	}
}

// P14.3: where all that is left is words 0, and where some at the end are, there are none of these.
func TestBothAreShort(t *testing.T) {
	wantBoth(t, Bits{5, 5}, Bits{10, 10}, nil, Bits{15, 15}, Bits{5, 5})
	wantBoth(t, Bits{5, 5, 1}, Bits{7, 7, 1, 1}, Bits{5, 5, 1}, Bits{7, 7, 1, 1}, nil)
	wantBoth(t, Bits{5, 0, 6, 2}, Bits{1, 0, 8, 2}, Bits{1, 0, 0, 2}, Bits{5, 0, 14, 2}, Bits{4, 0, 6})
	wantBoth(t, Bits{5, 0, 6, 1}, Bits{1, 0, 6, 2}, Bits{1, 0, 6}, Bits{5, 0, 6, 3}, Bits{4, 0, 0, 1})
	wantBoth(t, Bits{1, 0, 0}, Bits{2, 0, 0, 0}, nil, Bits{3}, Bits{1})
	wantBoth(t, Bits{0, 0, 0}, Bits{0, 0}, nil, nil, nil)
}

// P14.3: words 0 at the end do not count.
func TestSameButForWordsAtTheEnd(t *testing.T) {
	wantSame(t, nil, Bits{}, true)
	wantSame(t, nil, Bits{0}, true)
	wantSame(t, Bits{0, 0}, Bits{0, 0, 0}, true)
	wantSame(t, Bits{5}, Bits{5, 0, 0}, true)
	wantSame(t, Bits{5, 0}, Bits{5, 0, 0}, true)
	wantSame(t, Bits{0, 5}, Bits{0, 5, 0}, true)
	wantSame(t, of(65535), append(of(65535), 0), true)
}

// P14.3: a single number makes the difference, in whatever word it is, and though there are as many in the other one.
func TestSameButForOneNumber(t *testing.T) {
	for _, b := range sets() {
		for _, i := range []int{0, 1, 63, 64, 127, 128, 191, 192, 255, 256, 400, 65534} {
			wantSame(t, b, Put(b, i, !Has(b, i)), false)
			wantSame(t, b, Put(b, i, Has(b, i)), true)
		}
	}
	wantSame(t, Bits{1}, Bits{2}, false)
	wantSame(t, Bits{1}, Bits{0, 1}, false)
	wantSame(t, Bits{1}, Bits{1, 1}, false)
	wantSame(t, Bits{1, 2, 3}, Bits{1, 3, 3}, false)
	wantSame(t, nil, Bits{0, 0, 0, 1}, false)
}
