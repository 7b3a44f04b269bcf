package bits

import (
	"math"
	"testing"
)

// P14.1: with a number, that is in the first word, behind it, and the last one that may be put.
func TestPutIntoNothing(t *testing.T) {
	for _, b := range []Bits{nil, {}, {0}, {0, 0, 0}} {
		wantPut(t, b, 0, true, Bits{1})
		wantPut(t, b, 63, true, Bits{1 << 63})
		wantPut(t, b, 64, true, Bits{0, 1})
		wantPut(t, b, 70, true, Bits{0, 64})
		wantPut(t, b, 65535, true, append(make(Bits, 1023), 1<<63))
		wantPut(t, b, 65536, true, nil)
	}
}

// P14.1: with a number that is in already, the same, short.
func TestPutWhatIsIn(t *testing.T) {
	wantPut(t, Bits{1, 64}, 70, true, Bits{1, 64})
	wantPut(t, Bits{1, 64}, 0, true, Bits{1, 64})
	wantPut(t, Bits{1, 64, 0, 0}, 70, true, Bits{1, 64})
	wantPut(t, Bits{1 << 63, 1}, 63, true, Bits{1 << 63, 1})
	wantPut(t, Bits{all}, 17, true, Bits{all})
}

// P14.1: without a number that is in: it alone is gone.
func TestPutWithout(t *testing.T) {
	wantPut(t, Bits{all, all}, 0, false, Bits{all - 1, all})
	wantPut(t, Bits{all, all}, 63, false, Bits{1<<63 - 1, all})
	wantPut(t, Bits{all, all}, 64, false, Bits{all, all - 1})
	wantPut(t, Bits{all, all}, 70, false, Bits{all, all - 64})
	wantPut(t, append(make(Bits, 1023), 1<<63|1), 65535, false, append(make(Bits, 1023), 1))
}

// P14.1: without a number that is not in, the same, and no longer.
func TestPutWithoutWhatIsNotIn(t *testing.T) {
	wantPut(t, nil, 0, false, nil)
	wantPut(t, nil, 70, false, nil)
	wantPut(t, nil, 65535, false, nil)
	wantPut(t, Bits{6}, 0, false, Bits{6})
	wantPut(t, Bits{6}, 63, false, Bits{6})
	wantPut(t, Bits{6}, 64, false, Bits{6})
	wantPut(t, Bits{6}, 65535, false, Bits{6})
	wantPut(t, Bits{6, 0, 0}, 64, false, Bits{6})
}

// P14.1: without the last number of the last word what is answered is short: the words 0 ahead of that one go, too.
func TestPutWithoutTheLast(t *testing.T) {
	wantPut(t, Bits{1}, 0, false, nil)
	wantPut(t, Bits{1, 64}, 70, false, Bits{1})
	wantPut(t, Bits{1, 0, 0, 64}, 198, false, Bits{1})
	wantPut(t, Bits{0, 0, 0, 64}, 198, false, nil)
	wantPut(t, Bits{1, 0, 5, 64, 0, 0}, 198, false, Bits{1, 0, 5})
	wantPut(t, append(make(Bits, 1023), 1<<63), 65535, false, nil)
}

// P14.1: of a number that may not be put, the same, with it and without it.
func TestPutWhatMayNotBePut(t *testing.T) {
	for _, i := range asked() {
		if i >= 0 && i < 65536 {
			continue
		}
		for _, is := range []bool{true, false} {
			wantPut(t, nil, i, is, nil)
			wantPut(t, Bits{5}, i, is, Bits{5})
			wantPut(t, Bits{all, all}, i, is, Bits{all, all})
		}
	}
	for i := -200; i < 0; i++ {
		wantPut(t, Bits{5}, i, true, Bits{5})
		wantPut(t, Bits{all}, i, false, Bits{all})
	}
}

// P14.1: that is so of a number behind 65535 that is in: it is not taken out.
func TestPutFarOnTakesNothingOut(t *testing.T) {
	far := append(make(Bits, 1024), all)
	for _, i := range []int{65536, 65537, 65599} {
		wantHas(t, far, i, true)
		wantPut(t, far, i, false, far)
		wantPut(t, far, i, true, far)
	}
	wantPut(t, far, 65600, true, far)
	wantPut(t, far, 65535, true, append(append(make(Bits, 1023), 1<<63), all))
}

// P14.1: words 0 at the end go, where something is put and where nothing is.
func TestPutIsShort(t *testing.T) {
	for _, i := range []int{-1, math.MinInt, 65536, 1 << 32, math.MaxInt, 0} {
		wantPut(t, Bits{1, 0}, i, true, Bits{1})
		wantPut(t, Bits{2, 0, 0, 0}, i, false, Bits{2})
		wantPut(t, Bits{0, 0, 0}, i, false, nil)
		wantPut(t, append(of(64), make(Bits, 2000)...), i, false, Bits{0, 1})
	}
	wantPut(t, Bits{1, 0, 0, 0, 0}, 70, true, Bits{1, 64})
	wantPut(t, Bits{0, 0, 0}, -1, true, nil)
	wantPut(t, Bits{0, 0, 0}, 65536, true, nil)
}
