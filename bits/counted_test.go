package bits

import (
	"slices"
	"testing"
)

// kept is those of the numbers of which a rule holds.
func kept(in []int, rule func(i int) bool) []int {
	var left []int
	for _, i := range in {
		if rule(i) {
			left = append(left, i)
		}
	}
	return left
}

// wantAsCounted holds what is answered of two sets against their numbers.
func wantAsCounted(t *testing.T, a, b Bits) {
	t.Helper()
	inA, inB := numbers(a), numbers(b)
	isInA := func(i int) bool { _, is := slices.BinarySearch(inA, i); return is }
	isInB := func(i int) bool { _, is := slices.BinarySearch(inB, i); return is }
	either := slices.Concat(inA, inB)
	slices.Sort(either)
	wantBoth(t, a, b,
		of(kept(inA, isInB)...),
		of(slices.Compact(either)...),
		of(kept(inA, func(i int) bool { return !isInB(i) })...))
	wantSame(t, a, b, slices.Equal(inA, inB))
	wantCount(t, a, len(inA))
	for at, i := range inA {
		wantHas(t, a, i, true)
		wantHas(t, b, i, isInB(i))
		wantHas(t, a, i+1, isInA(i+1))
		wantHas(t, a, i-1, isInA(i-1))
		if at > 0 {
			wantNext(t, a, inA[at-1]+1, i)
		}
	}
}

// wantAsCountedOf holds what is answered of a set and a number against the set's numbers.
func wantAsCountedOf(t *testing.T, b Bits, i int) {
	t.Helper()
	in := numbers(b)
	wantHas(t, b, i, slices.Contains(in, i))
	from := kept(in, func(j int) bool { return j >= i })
	if len(from) > 0 {
		wantNext(t, b, i, from[0])
	} else {
		wantNext(t, b, i, -1)
	}
	without, with := in, in
	if i >= 0 && i <= 65535 {
		without = kept(in, func(j int) bool { return j != i })
		with = append(slices.Clone(without), i)
	}
	wantPut(t, b, i, true, of(with...))
	wantPut(t, b, i, false, of(without...))
}

// P14.1, P14.2, P14.4: of sets and numbers of many a kind.
func TestOneSetAsCounted(t *testing.T) {
	for _, b := range sets() {
		for _, i := range asked() {
			wantAsCountedOf(t, b, i)
		}
	}
}

// P14.2, P14.3, P14.4: of sets of many a kind, each with each, itself, too.
func TestTwoSetsAsCounted(t *testing.T) {
	for _, a := range sets() {
		for _, b := range sets() {
			wantAsCounted(t, a, b)
		}
	}
}

// P14.4: each number is in what Put answers just if it was, or it is the one that was put: told by Has.
func TestPutByHas(t *testing.T) {
	for _, b := range sets()[:21] {
		for _, i := range []int{0, 1, 63, 64, 70, 127, 128, 191, 192, 255, 383, 384, 447, 448} {
			for _, is := range []bool{true, false} {
				put := Put(b, i, is)
				wantShort(t, put)
				for j := -130; j < 600; j++ {
					if j == i {
						wantHas(t, put, j, is)
					} else {
						wantHas(t, put, j, Has(b, j))
					}
				}
			}
		}
	}
}

// P14.4: each number is in And just if both have it, in Or if one has it, in Less if the first one alone has it: told by Has.
func TestTwoSetsByHas(t *testing.T) {
	for _, a := range sets()[:21] {
		for _, b := range sets()[:21] {
			and, or, less := And(a, b), Or(a, b), Less(a, b)
			wantShort(t, and)
			wantShort(t, or)
			wantShort(t, less)
			for j := -130; j < 600; j++ {
				hasA, hasB := Has(a, j), Has(b, j)
				wantHas(t, and, j, hasA && hasB)
				wantHas(t, or, j, hasA || hasB)
				wantHas(t, less, j, hasA && !hasB)
			}
		}
	}
}

// P14.4: numbers behind 65535, which Put does not put, stay in what is answered.
func TestNumbersFarOnAreKept(t *testing.T) {
	far := append(make(Bits, 1024), 1, all)
	near := of(3, 70)
	both := Or(near, far)
	for _, i := range []int{3, 70, 65536, 65600, 65663} {
		wantHas(t, both, i, true)
		wantHas(t, Put(both, 70, false), i, i != 70)
		wantHas(t, Less(both, near), i, i > 70)
		wantHas(t, And(both, far), i, i > 70)
	}
	wantCount(t, both, 67)
}

// P14.1 to P14.4: a set that is put together and taken apart, number by number, in an order that is not theirs.
func TestTogetherAndApart(t *testing.T) {
	var b Bits
	for k := range 500 {
		b = Put(b, k*131%500, true)
		wantCount(t, b, k+1)
	}
	wantSame(t, b, Bits{all, all, all, all, all, all, all, 1<<52 - 1}, true)
	for k := range 500 {
		i := k * 377 % 500
		wantHas(t, b, i, true)
		b = Put(b, i, false)
		wantHas(t, b, i, false)
		wantShort(t, b)
		wantCount(t, b, 499-k)
	}
	if len(b) != 0 {
		t.Errorf("%v is left", b)
	}
}

// P14.2: by Next, from one number to the one behind it, each number is come to, in their order.
func TestNextGoesThroughAll(t *testing.T) {
	for _, b := range sets() {
		var in []int
		for i := Next(b, 0); i >= 0; i = Next(b, i+1) {
			in = append(in, i)
		}
		if !slices.Equal(in, numbers(b)) || len(in) != Count(b) {
			t.Errorf("%v: Next comes to %v; Count is %d", told(b), in, Count(b))
		}
	}
}

// P14.3, P14.4: what two have is Less of one, Less of the other, and And, which do not meet.
func TestPartsOfTwo(t *testing.T) {
	for _, a := range sets() {
		for _, b := range sets() {
			wantSame(t, Or(Or(Less(a, b), Less(b, a)), And(a, b)), Or(b, a), true)
			wantSame(t, And(Less(a, b), b), nil, true)
			if Count(a)+Count(b) != Count(Or(a, b))+Count(And(a, b)) {
				t.Errorf("%v, %v: Or has %d, And has %d", told(a), told(b), Count(Or(a, b)), Count(And(a, b)))
			}
		}
	}
}
