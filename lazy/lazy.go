// Package lazy is layer 1: see shared/doc/01-lazy.md.
package lazy

import (
	"sync"
	"sync/atomic"
)

// Value is made when it is first asked for.
type Value[T any] struct {
	fromNew bool // never written behind New, so that all may read it without a lock
	once    sync.Once
	make    func() T // read and written under once alone
	value   T
	made    atomic.Bool
}

// New: a value that is made by a function; nil: there is no function.
func New[T any](make func() T) *Value[T] {
	if make == nil {
		return nil
	}
	return &Value[T]{fromNew: true, make: make}
}

// Get: the value, and true; false: it is none that New made.
func (v *Value[T]) Get() (T, bool) {
	if v == nil || !v.fromNew {
		var zero T
		return zero, false
	}
	v.once.Do(v.fill)
	return v.value, true
}

// fill lets go of the function, so that what that holds on to is not kept for good.
func (v *Value[T]) fill() {
	v.value = v.make()
	v.make = nil
	v.made.Store(true)
}

// Made: was it made?
func (v *Value[T]) Made() bool {
	return v != nil && v.made.Load()
}

// Count is a number that many may change at once.
type Count struct {
	n atomic.Int64
}

// Add: it is more; what it is then.
func (c *Count) Add(by int64) int64 {
	if c == nil {
		return 0
	}
	return c.n.Add(by)
}

// Swap: it is another number; what it was.
func (c *Count) Swap(n int64) int64 {
	if c == nil {
		return 0
	}
	return c.n.Swap(n)
}

// Try: if it is old, it is new; was it?
func (c *Count) Try(old, new int64) bool {
	return c != nil && c.n.CompareAndSwap(old, new)
}

// Max: it is n, if that is more; what it is then.
func (c *Count) Max(n int64) int64 {
	if c == nil {
		return 0
	}
	// It is gone round again only when somebody else's change came in between, so that none of these is written over.
	for {
		was := c.n.Load()
		if n <= was {
			return was
		}
		if c.n.CompareAndSwap(was, n) {
			return n
		}
	}
}

// Get: what it is.
func (c *Count) Get() int64 {
	if c == nil {
		return 0
	}
	return c.n.Load()
}
