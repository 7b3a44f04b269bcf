package bits

import (
	"encoding/binary"
	"math"
	"slices"
	"testing"
)

// all is a word with all its bits.
const all = math.MaxUint64

// numbers is the chapter's words by counting: the number 64 w + k is in, if the word w, halved k times, is odd.
func numbers(b Bits) []int {
	var in []int
	for w, left := range b {
		for k := 0; left > 0; k++ {
			if left%2 == 1 {
				in = append(in, 64*w+k)
			}
			left /= 2
		}
	}
	return in
}

// of is the short Bits of numbers, by adding their bits' values.
func of(in ...int) Bits {
	var b Bits
	for _, i := range in {
		for len(b) <= i/64 {
			b = append(b, 0)
		}
		value := uint64(1)
		for range i % 64 {
			value *= 2
		}
		b[i/64] += value
	}
	return b
}

// sets is Bits of many a kind: nothing, words 0 at the end, ahead and between, words with all their bits, numbers at a word's ends.
func sets() []Bits {
	return []Bits{
		nil,
		{},
		{0},
		{0, 0, 0},
		{1},
		{1, 0},
		{2},
		{1 << 63},
		{1 << 63, 0, 0},
		{0, 1},
		{0, 1, 0},
		{0, 64},
		{1 << 63, 1},
		{all},
		{all, 0, all},
		{all, all, all, 0, 0},
		{0, 0, 0, 1 << 63},
		{5, 0, 0, 0, 9, 0},
		{0xaaaaaaaaaaaaaaaa, 0x5555555555555555},
		{0x5555555555555555, 0xaaaaaaaaaaaaaaaa, 0},
		{1 << 62, 1<<63 | 1, 0, 3},
		of(65535),
		append(make(Bits, 1024), 1),
		append(make(Bits, 1024), 1, 0, all, 0),
	}
}

// asked is numbers to ask for: at both sides of words' ends, far on, below 0, and such as come round when they are cut short.
func asked() []int {
	return []int{
		0, 1, 2, 5, 6, 7, 62, 63, 64, 65, 69, 70, 71, 126, 127, 128, 129, 191, 192, 193, 255, 256, 257, 259, 319, 320, 384,
		65471, 65472, 65534, 65535, 65536, 65537, 65599, 65600, 65663, 65664, 65727, 65728, 65791, 65792, 1 << 17,
		1 << 31, 1<<31 - 1, 1 << 32, 1<<32 + 1, 1<<32 + 63, 1<<32 + 64, 1 << 38, 1<<38 + 5, 1 << 62, math.MaxInt - 64, math.MaxInt - 63, math.MaxInt - 1, math.MaxInt,
		-1, -2, -62, -63, -64, -65, -127, -128, -129, -65535, -65536, -1 << 31, -1 << 32, -1<<32 + 64, -1 << 62, math.MinInt + 64, math.MinInt + 63, math.MinInt + 1, math.MinInt,
	}
}

func wantHas(t *testing.T, b Bits, i int, want bool) {
	t.Helper()
	if got := Has(b, i); got != want {
		t.Errorf("Has(%v, %d) = %t", told(b), i, got)
	}
}

func wantPut(t *testing.T, b Bits, i int, is bool, want Bits) {
	t.Helper()
	if got := Put(b, i, is); !slices.Equal(got, want) {
		t.Errorf("Put(%v, %d, %t) = %v, want %v", told(b), i, is, told(got), told(want))
	}
}

func wantCount(t *testing.T, b Bits, want int) {
	t.Helper()
	if got := Count(b); got != want {
		t.Errorf("Count(%v) = %d, want %d", told(b), got, want)
	}
}

func wantNext(t *testing.T, b Bits, i, want int) {
	t.Helper()
	if got := Next(b, i); got != want {
		t.Errorf("Next(%v, %d) = %d, want %d", told(b), i, got, want)
	}
}

// wantBoth holds And, Or and Less of two.
func wantBoth(t *testing.T, a, b, and, or, less Bits) {
	t.Helper()
	if got := And(a, b); !slices.Equal(got, and) {
		t.Errorf("And(%v, %v) = %v, want %v", told(a), told(b), told(got), told(and))
	}
	if got := Or(a, b); !slices.Equal(got, or) {
		t.Errorf("Or(%v, %v) = %v, want %v", told(a), told(b), told(got), told(or))
	}
	if got := Less(a, b); !slices.Equal(got, less) {
		t.Errorf("Less(%v, %v) = %v, want %v", told(a), told(b), told(got), told(less))
	}
}

func wantSame(t *testing.T, a, b Bits, want bool) {
	t.Helper()
	if got := Same(a, b); got != want {
		t.Errorf("Same(%v, %v) = %t", told(a), told(b), got)
	}
	if got := Same(b, a); got != want {
		t.Errorf("Same(%v, %v) = %t", told(b), told(a), got)
	}
}

func wantShort(t *testing.T, b Bits) {
	t.Helper()
	if len(b) > 0 && b[len(b)-1] == 0 {
		t.Errorf("%v is not short", told(b))
	}
}

// told is Bits as a test tells of them: of long ones, the numbers.
func told(b Bits) any {
	if len(b) > 8 {
		return struct{ words, in any }{len(b), numbers(b)}
	}
	return []uint64(b)
}

// The chapter's example.
func TestExample(t *testing.T) {
	wantPut(t, nil, 70, true, Bits{0, 64})
	wantNext(t, Bits{0, 64}, 3, 70)
}

// words is Bits of bytes, eight a word, the last ones cut off.
func words(bytes []byte) Bits {
	var b Bits
	for len(bytes) >= 8 && len(b) < 2000 {
		b = append(b, binary.LittleEndian.Uint64(bytes))
		bytes = bytes[8:]
	}
	return b
}

// P14.1 to P14.4: whatever the words are, each call answers what counting says.
func FuzzBits(f *testing.F) {
	f.Add([]byte("\x01\x00\x00\x00\x00\x00\x00\x80"), []byte("\x00\x00\x00\x00\x00\x00\x00\x00"), 63)
	f.Add([]byte("\xff\xff\xff\xff\xff\xff\xff\xff\x00\x00\x00\x00\x00\x00\x00\x00"), []byte("abcdefgh"), 64)
	f.Add([]byte{}, []byte("\x00\x00\x00\x00\x00\x00\x00\x00\x01\x00\x00\x00\x00\x00\x00\x00"), math.MinInt)
	f.Fuzz(func(t *testing.T, x, y []byte, i int) {
		a, b := words(x), words(y)
		wantAsCounted(t, a, b)
		for _, i := range []int{i, i % 200, i % 70000} {
			wantAsCountedOf(t, a, i)
		}
	})
}
