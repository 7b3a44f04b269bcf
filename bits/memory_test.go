package bits

import (
	"slices"
	"testing"
)

// calls is each call that answers Bits, of two sets and a number.
func calls() map[string]func(a, b Bits, i int) Bits {
	return map[string]func(a, b Bits, i int) Bits{
		"Put with":    func(a, b Bits, i int) Bits { return Put(a, i, true) },
		"Put without": func(a, b Bits, i int) Bits { return Put(a, i, false) },
		"And":         func(a, b Bits, i int) Bits { return And(a, b) },
		"Or":          func(a, b Bits, i int) Bits { return Or(a, b) },
		"Less":        func(a, b Bits, i int) Bits { return Less(a, b) },
	}
}

// roomy is a copy with words of its own behind its end, all of them with all their bits.
func roomy(b Bits) Bits {
	long := append(slices.Clone(b), all, all, all, all)
	return long[:len(b)]
}

// R6: what is handed in stays as it is, and so do the words behind its end.
func TestArgumentsStay(t *testing.T) {
	for name, call := range calls() {
		for _, first := range sets() {
			for _, second := range sets() {
				for _, i := range []int{-1, 0, 63, 70, 192, 500, 65535, 65536} {
					a, b := roomy(first), roomy(second)
					call(a, b, i)
					if !slices.Equal(a, first) || !slices.Equal(b, second) {
						t.Fatalf("%s: %v and %v became %v and %v", name, told(first), told(second), told(a), told(b))
					}
					for _, w := range append(slices.Clone(a[len(a):len(a)+4]), b[len(b):len(b)+4]...) {
						if w != all {
							t.Fatalf("%s: a word behind %v or %v became %d", name, told(first), told(second), w)
						}
					}
				}
			}
		}
	}
}

// R4, R6: the words behind the end of what is handed in tell nothing.
func TestWordsBehindTheEndDoNotCount(t *testing.T) {
	for name, call := range calls() {
		for _, a := range sets() {
			for _, b := range sets() {
				for _, i := range []int{-1, 63, 300, 65536} {
					if got, want := call(roomy(a), roomy(b), i), call(a, b, i); !slices.Equal(got, want) {
						t.Fatalf("%s of %v, %v, %d: %v, and %v", name, told(a), told(b), i, told(got), told(want))
					}
				}
			}
		}
	}
	wantHas(t, roomy(Bits{1}), 64, false)
	wantCount(t, roomy(Bits{1}), 1)
	wantNext(t, roomy(Bits{1}), 1, -1)
	wantSame(t, roomy(Bits{1}), Bits{1}, true)
}

// R6: writing over what was answered, and behind it, changes no later answer, nor what was handed in.
func TestAnswersAreNewMemory(t *testing.T) {
	for name, call := range calls() {
		for _, first := range sets() {
			for _, second := range sets() {
				for _, i := range []int{-1, 0, 70, 500, 65536} {
					a, b := slices.Clone(first), slices.Clone(second)
					got := call(a, b, i)
					want := slices.Clone(got)
					got = got[:cap(got)]
					for w := range got {
						got[w] = 0x123456789abcdef0
					}
					if !slices.Equal(a, first) || !slices.Equal(b, second) {
						t.Fatalf("%s: writing over the answer made of %v and %v: %v and %v", name, told(first), told(second), told(a), told(b))
					}
					if again := call(a, b, i); !slices.Equal(again, want) {
						t.Fatalf("%s of %v, %v, %d: %v, then %v", name, told(a), told(b), i, told(want), told(again))
					}
				}
			}
		}
	}
}

// R6: writing over what was handed in changes nothing of what was answered.
func TestArgumentsAreNotKept(t *testing.T) {
	for name, call := range calls() {
		for _, first := range sets() {
			for _, second := range sets() {
				a, b := slices.Clone(first), slices.Clone(second)
				got := call(a, b, 70)
				want := slices.Clone(got)
				for w := range a {
					a[w] = ^a[w]
				}
				for w := range b {
					b[w] = ^b[w]
				}
				if !slices.Equal(got, want) {
					t.Fatalf("%s of %v, %v: %v became %v", name, told(first), told(second), told(want), told(got))
				}
			}
		}
	}
}
