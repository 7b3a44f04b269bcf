package lazy

import (
	"errors"
	"runtime"
	"slices"
	"sync"
	"sync/atomic"
	"testing"
)

// together runs so many goroutines, lets none begin till all are there, so that they get in each other's way, and waits for all.
func together(many int, do func(i int)) {
	var wait sync.WaitGroup
	var there atomic.Int64
	for i := range many {
		wait.Add(1)
		go func() {
			defer wait.Done()
			there.Add(1)
			for there.Load() < int64(many) {
				runtime.Gosched()
			}
			do(i)
		}()
	}
	wait.Wait()
}

// P1.1, example 1.
func TestGetCallsMakeOnce(t *testing.T) {
	var calls Count
	v := New(func() int64 { return calls.Add(1) })
	if v == nil {
		t.Fatal("New of a make: nil")
	}
	if v.Made() || calls.Get() != 0 {
		t.Fatal("made ahead of the first Get")
	}
	for range 3 {
		if x, is := v.Get(); x != 1 || !is {
			t.Errorf("Get = %d, %t; want 1, true", x, is)
		}
		if !v.Made() {
			t.Error("not Made behind a Get")
		}
	}
	if calls.Get() != 1 {
		t.Errorf("make was called %d times", calls.Get())
	}
}

// P1.1.
func TestMadeDoesNotMake(t *testing.T) {
	calls := 0
	v := New(func() int { calls++; return 7 })
	for range 3 {
		if v.Made() {
			t.Error("Made of a value that nobody asked for")
		}
	}
	if calls != 0 {
		t.Errorf("Made called make %d times", calls)
	}
}

// P1.1.
func TestNewOfNoMake(t *testing.T) {
	if New[int](nil) != nil || New[string](nil) != nil || New[[]byte](nil) != nil {
		t.Error("New of nil is not nil")
	}
	var none func() error
	if New(none) != nil {
		t.Error("New of a variable that is nil is not nil")
	}
}

func notMadeByNew[T comparable](t *testing.T, name string) {
	t.Helper()
	var zero T
	var value Value[T]
	var none *Value[T]
	for _, v := range []*Value[T]{none, &value, new(Value[T]), New[T](nil)} {
		for range 2 {
			if x, is := v.Get(); x != zero || is {
				t.Errorf("%s: Get = %v, %t; want the zero and false", name, x, is)
			}
			if v.Made() {
				t.Errorf("%s: Made", name)
			}
		}
	}
}

// P1.1.
func TestValueThatNewDidNotMake(t *testing.T) {
	notMadeByNew[int](t, "int")
	notMadeByNew[string](t, "string")
	notMadeByNew[*int](t, "pointer")
	notMadeByNew[error](t, "interface")
	notMadeByNew[[3]bool](t, "array")
	notMadeByNew[struct{ a, b int }](t, "struct")
}

func answersZero[T comparable](t *testing.T, name string) {
	t.Helper()
	var zero T
	calls := 0
	v := New(func() T { calls++; return zero })
	for range 2 {
		if x, is := v.Get(); x != zero || !is {
			t.Errorf("%s: Get = %v, %t; want the zero and true", name, x, is)
		}
	}
	if calls != 1 || !v.Made() {
		t.Errorf("%s: %d calls, Made %t", name, calls, v.Made())
	}
}

// P1.1: that make answers a zero does not mean that it was not called.
func TestMakeThatAnswersZero(t *testing.T) {
	answersZero[int](t, "int")
	answersZero[string](t, "string")
	answersZero[*int](t, "pointer")
	answersZero[error](t, "interface")
	answersZero[struct{}](t, "empty struct")
}

// P1.1.
func TestValuesOfManyTypes(t *testing.T) {
	wrong := errors.New("wrong")
	if x, is := New(func() error { return wrong }).Get(); x != wrong || !is {
		t.Errorf("error: %v, %t", x, is)
	}
	if x, is := New(func() []int { return []int{3, 1, 2} }).Get(); !slices.Equal(x, []int{3, 1, 2}) || !is {
		t.Errorf("slice: %v, %t", x, is)
	}
	if x, is := New(func() map[string]int { return map[string]int{"a": 1} }).Get(); len(x) != 1 || x["a"] != 1 || !is {
		t.Errorf("map: %v, %t", x, is)
	}
	if x, is := New(func() func() int { return func() int { return 9 } }).Get(); !is || x() != 9 {
		t.Errorf("function: %t", is)
	}
	v := New(func() *int { return new(int) })
	first, _ := v.Get()
	second, _ := v.Get()
	if first == nil || first != second {
		t.Error("pointer: two Gets tell of two of them")
	}
}

// P1.1.
func TestTwoValuesOfOneMake(t *testing.T) {
	calls := 0
	count := func() int { calls++; return calls }
	a, b := New(count), New(count)
	if x, _ := b.Get(); x != 1 || a.Made() || !b.Made() {
		t.Errorf("b = %d, Made: %t, %t", x, a.Made(), b.Made())
	}
	if x, _ := a.Get(); x != 2 || !a.Made() {
		t.Errorf("a = %d", x)
	}
	if x, _ := b.Get(); x != 1 || calls != 2 {
		t.Errorf("b = %d behind %d calls", x, calls)
	}
}

// P1.1.
func TestMakeThatAsksAnotherValue(t *testing.T) {
	low := New(func() int { return 20 })
	high := New(func() int { x, _ := low.Get(); return x + 1 })
	if x, is := high.Get(); x != 21 || !is || !low.Made() {
		t.Errorf("Get = %d, %t", x, is)
	}
}

// P1.1: from whatever goroutines.
func TestManyAskForOneValue(t *testing.T) {
	const many = 64
	for range 200 {
		var calls atomic.Int64
		v := New(func() int64 {
			runtime.Gosched()
			return 100 + calls.Add(1)
		})
		var told [many]int64
		var is, made [many]bool
		together(many, func(i int) {
			told[i], is[i] = v.Get()
			made[i] = v.Made()
		})
		if calls.Load() != 1 {
			t.Fatalf("make was called %d times", calls.Load())
		}
		for i := range many {
			if told[i] != 101 || !is[i] || !made[i] {
				t.Fatalf("goroutine %d: Get = %d, %t, Made %t", i, told[i], is[i], made[i])
			}
		}
	}
}

// P1.1: those that come while make is on its way wait for its answer, and it is not Made till then.
func TestWhileMakeIsOnItsWay(t *testing.T) {
	const many = 16
	var asking, early, calls atomic.Int64
	begun, goOn := make(chan struct{}), make(chan struct{})
	answered := atomic.Bool{}
	v := New(func() string {
		if calls.Add(1) == 1 {
			close(begun)
		}
		<-goOn
		answered.Store(true)
		return "made"
	})
	var wait sync.WaitGroup
	ask := func() {
		defer wait.Done()
		asking.Add(1)
		x, is := v.Get()
		if !answered.Load() {
			early.Add(1)
		}
		if x != "made" || !is {
			t.Errorf("Get = %q, %t", x, is)
		}
	}
	wait.Add(1)
	go ask()
	<-begun
	wait.Add(many)
	for range many {
		go ask()
	}
	for asking.Load() < many+1 {
		runtime.Gosched()
	}
	for range 1000 {
		if v.Made() {
			t.Fatal("Made ahead of make's answer")
		}
		runtime.Gosched()
	}
	close(goOn)
	wait.Wait()
	if early.Load() != 0 || calls.Load() != 1 || !v.Made() {
		t.Errorf("%d told early, %d calls, Made %t", early.Load(), calls.Load(), v.Made())
	}
}

// P1.1: who sees that it is Made is told by Get what make answered.
func TestMadeThenGet(t *testing.T) {
	for range 200 {
		v := New(func() int { runtime.Gosched(); return 5 })
		together(8, func(i int) {
			if i == 0 {
				v.Get()
				return
			}
			for range 50 {
				if !v.Made() {
					continue
				}
				if x, is := v.Get(); x != 5 || !is {
					t.Errorf("Get = %d, %t", x, is)
				}
				return
			}
		})
	}
}
