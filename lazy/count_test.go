package lazy

import (
	"math"
	"sync/atomic"
	"testing"
)

const (
	least    = math.MinInt64
	greatest = math.MaxInt64
)

func countOf(n int64) *Count {
	c := new(Count)
	c.Swap(n)
	return c
}

func wantCount(t *testing.T, c *Count, n int64) {
	t.Helper()
	if got := c.Get(); got != n {
		t.Errorf("Get = %d, want %d", got, n)
	}
}

// P1.2, example 1.
func TestCountExample(t *testing.T) {
	var c Count
	if got := c.Add(3); got != 3 {
		t.Errorf("Add(3) = %d", got)
	}
	if got := c.Swap(5); got != 3 {
		t.Errorf("Swap(5) = %d", got)
	}
	if !c.Try(5, 7) {
		t.Error("Try(5, 7) = false")
	}
	wantCount(t, &c, 7)
}

// P1.2: a Count that no call made is one of 0.
func TestCountThatNoCallMade(t *testing.T) {
	wantCount(t, new(Count), 0)
	if got := new(Count).Add(-2); got != -2 {
		t.Errorf("Add(-2) = %d", got)
	}
	if got := new(Count).Swap(4); got != 0 {
		t.Errorf("Swap(4) = %d", got)
	}
	if !new(Count).Try(0, 4) || new(Count).Try(1, 4) {
		t.Error("Try: not one of 0")
	}
	if got := new(Count).Max(-1); got != 0 {
		t.Errorf("Max(-1) = %d", got)
	}
	if got := new(Count).Max(1); got != 1 {
		t.Errorf("Max(1) = %d", got)
	}
}

// P1.2: of a nil Count all answer 0 and false.
func TestNilCount(t *testing.T) {
	var c *Count
	for _, n := range []int64{0, 1, -1, 9, least, greatest} {
		if c.Add(n) != 0 || c.Swap(n) != 0 || c.Max(n) != 0 || c.Get() != 0 {
			t.Errorf("%d: a nil Count answers more than 0", n)
		}
		if c.Try(0, n) || c.Try(n, 0) || c.Try(n, n) {
			t.Errorf("%d: Try of a nil Count", n)
		}
	}
}

// P1.2: sums wrap round.
func TestAdd(t *testing.T) {
	for _, x := range []struct{ is, by, then int64 }{
		{0, 0, 0},
		{0, 3, 3},
		{3, -5, -2},
		{-2, 2, 0},
		{greatest, 0, greatest},
		{greatest, 1, least},
		{greatest, greatest, -2},
		{least, -1, greatest},
		{least, least, 0},
		{least, greatest, -1},
		{-1, least, greatest},
	} {
		c := countOf(x.is)
		if got := c.Add(x.by); got != x.then {
			t.Errorf("%d: Add(%d) = %d, want %d", x.is, x.by, got, x.then)
		}
		wantCount(t, c, x.then)
	}
}

// P1.2.
func TestSwap(t *testing.T) {
	c := new(Count)
	was := int64(0)
	for _, n := range []int64{5, 5, -5, greatest, least, 0} {
		if got := c.Swap(n); got != was {
			t.Errorf("Swap(%d) = %d, want %d", n, got, was)
		}
		wantCount(t, c, n)
		was = n
	}
}

// P1.2: a Try that answers false changes nothing.
func TestTry(t *testing.T) {
	for _, x := range []struct {
		is, old, new int64
		ok           bool
	}{
		{0, 0, 1, true},
		{0, 1, 2, false},
		{5, 5, 5, true},
		{5, 4, 5, false},
		{5, -5, 6, false},
		{5, 0, 9, false},
		{least, least, greatest, true},
		{least, greatest, 0, false},
		{greatest, -1, 0, false},
	} {
		c := countOf(x.is)
		if got := c.Try(x.old, x.new); got != x.ok {
			t.Errorf("%d: Try(%d, %d) = %t", x.is, x.old, x.new, got)
		}
		want := x.is
		if x.ok {
			want = x.new
		}
		wantCount(t, c, want)
	}
}

// P1.2.
func TestMax(t *testing.T) {
	for _, x := range []struct{ is, n, then int64 }{
		{0, 0, 0},
		{0, 1, 1},
		{0, -1, 0},
		{6, 3, 6},
		{6, 9, 9},
		{-6, -9, -6},
		{-6, -3, -3},
		{-6, 0, 0},
		{least, least, least},
		{least, greatest, greatest},
		{greatest, least, greatest},
		{greatest, greatest, greatest},
	} {
		c := countOf(x.is)
		if got := c.Max(x.n); got != x.then {
			t.Errorf("%d: Max(%d) = %d, want %d", x.is, x.n, got, x.then)
		}
		wantCount(t, c, x.then)
	}
}

// P1.2: a Get changes nothing, and two counts have nothing to do with each other.
func TestCountsApart(t *testing.T) {
	var a, b Count
	a.Add(4)
	b.Max(6)
	for range 3 {
		wantCount(t, &a, 4)
		wantCount(t, &b, 6)
	}
}

// P1.3.
func TestManyAdd(t *testing.T) {
	const many, times = 32, 20000
	var c Count
	together(many, func(i int) {
		for range times {
			c.Add(int64(i) - 7)
		}
	})
	wantCount(t, &c, times*(many*(many-1)/2-7*many))
}

// P1.3: so it is when sums wrap round on the way.
func TestManyAddAndWrap(t *testing.T) {
	const many, times = 16, 20000
	var c Count
	want := int64(0)
	for i := range many {
		for range times {
			want += greatest - int64(i)
		}
	}
	together(many, func(i int) {
		for range times {
			c.Add(greatest - int64(i))
		}
	})
	wantCount(t, &c, want)
}

// P1.2 and P1.3: each Add tells what the count was just behind it, so that no two of these tell the same.
func TestManyAddTellEachNumberOnce(t *testing.T) {
	const many, times = 8, 1000000
	var c Count
	told := make([]atomic.Int32, many*times)
	together(many, func(int) {
		for range times {
			told[c.Add(1)-1].Add(1)
		}
	})
	for i := range told {
		if n := told[i].Load(); n != 1 {
			t.Fatalf("%d was told %d times", i+1, n)
		}
	}
}

// P1.2: what is swapped in comes out once, or is there at the end.
func TestManySwap(t *testing.T) {
	const many, times = 8, 100000
	var c Count
	out := make([]atomic.Int32, many*times+1)
	together(many, func(i int) {
		for k := range times {
			out[c.Swap(int64(i*times+k+1))].Add(1)
		}
	})
	out[c.Get()].Add(1)
	for i := range out {
		if n := out[i].Load(); n != 1 {
			t.Fatalf("%d came out %d times", i, n)
		}
	}
}

// P1.2: each Try that answers true took the count one step on, and no other one took the same step.
func TestManyTry(t *testing.T) {
	const many, times = 8, 200000
	var c Count
	var done atomic.Int64
	together(many, func(int) {
		own := int64(0)
		for range times {
			if n := c.Get(); c.Try(n, n+1) {
				own++
			}
		}
		done.Add(own)
	})
	wantCount(t, &c, done.Load())
}

// P1.2: of many who try the same, one does it.
func TestManyTryTheSame(t *testing.T) {
	const many, steps = 8, 20000
	var c Count
	done := make([]atomic.Int32, steps)
	together(many, func(int) {
		for k := range steps {
			if c.Try(int64(k), int64(k)+1) {
				done[k].Add(1)
			}
		}
	})
	wantCount(t, &c, steps)
	for k := range done {
		if n := done[k].Load(); n != 1 {
			t.Fatalf("the step %d was done %d times", k, n)
		}
	}
}

// P1.2: the greatest one stays, and as all go up, nobody sees it go down.
func TestManyMax(t *testing.T) {
	const many, times = 8, 200000
	c := countOf(least)
	together(many, func(i int) {
		for k := range times {
			n := int64(k*many + i)
			got := c.Max(n)
			if now := c.Get(); got < n || now < got {
				t.Errorf("Max(%d) = %d, and then it is %d", n, got, now)
				return
			}
		}
	})
	wantCount(t, c, many*times-1)
}

// P1.2: a Max writes over no Add that comes in between.
func TestMaxBesideAdd(t *testing.T) {
	const many, times = 8, 200000
	var c Count
	together(many, func(i int) {
		for range times {
			got := int64(0)
			if i%2 == 0 {
				got = c.Add(1)
			} else {
				got = c.Max(c.Get() + 1)
			}
			if now := c.Get(); now < got {
				t.Errorf("it was %d, and is %d", got, now)
				return
			}
		}
	})
	if c.Get() < many/2*times {
		t.Errorf("%d is less than what was added", c.Get())
	}
}
