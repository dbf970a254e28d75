package arena_test

import (
	"errors"
	"math"
	"runtime"
	"testing"

	"openbell/api"
	"openbell/arena"
)

// someNumbers are slots and ages; most of them never are.
var someNumbers = []int{math.MinInt, math.MinInt + 1, -1 << 32, -1000, -2, -1, 0, 1, 2, 3, 4, 999, 1000, 1001, 1 << 32, 1<<32 + 1, math.MaxInt - 1, math.MaxInt}

// made is an arena for as many things as may be asked for.
func made[T any](t *testing.T, most int) *arena.Arena[T] {
	t.Helper()
	a, err := arena.New[T](most)
	if a == nil || err != nil {
		t.Fatalf("New(%d): %v, %v, want an arena", most, a, err)
	}
	if n := a.Many(); n != 0 {
		t.Fatalf("New(%d): %d things, want none", most, n)
	}
	return a
}

// is checks that an error is a plain Errno, without a place (P3).
func is(t *testing.T, what string, err error, want api.Errno) {
	t.Helper()
	var at *api.At
	if api.Tell(err) != want || errors.As(err, &at) {
		t.Fatalf("%s: error %v (a place: %v), want %v", what, err, at, want)
	}
}

// puts checks where a thing goes.
func puts[T any](t *testing.T, a *arena.Arena[T], x T, slot, age int) arena.Handle {
	t.Helper()
	h, err := a.Put(x)
	is(t, "Put", err, api.OK)
	if want := (arena.Handle{Slot: slot, Age: age}); h != want {
		t.Fatalf("Put(%v): %v, want %v", x, h, want)
	}
	return h
}

// tells checks what Get or Take answers of a handle that has a thing.
func tells[T comparable](t *testing.T, what string, ask func(arena.Handle) (T, error), h arena.Handle, want T) {
	t.Helper()
	x, err := ask(h)
	is(t, what, err, api.OK)
	if x != want {
		t.Fatalf("%s(%v): %v, want %v", what, h, x, want)
	}
}

// takes takes what is there.
func takes[T comparable](t *testing.T, a *arena.Arena[T], h arena.Handle, want T) {
	t.Helper()
	tells(t, "Take", a.Take, h, want)
}

// has checks a handle's thing.
func has[T comparable](t *testing.T, a *arena.Arena[T], h arena.Handle, want T) {
	t.Helper()
	tells(t, "Get", a.Get, h, want)
}

// stale checks that a handle has nothing, and that to ask by it changes nothing (P2).
func stale[T comparable](t *testing.T, a *arena.Arena[T], h arena.Handle, other T) {
	t.Helper()
	var none T
	many := a.Many()
	x, err := a.Get(h)
	is(t, "Get", err, api.ErrMissing)
	y, err := a.Take(h)
	is(t, "Take", err, api.ErrMissing)
	is(t, "Set", a.Set(h, other), api.ErrMissing)
	if x != none || y != none {
		t.Fatalf("%v: Get %v, Take %v, want nothing beside the error", h, x, y)
	}
	if n := a.Many(); n != many {
		t.Fatalf("%v: %d things, want %d as ahead", h, n, many)
	}
}

// 3.1, New: from 1 to 1000 things.
func TestNew(t *testing.T) {
	for _, most := range []int{1, 2, 999, 1000} {
		made[string](t, most)
	}
	for _, most := range []int{math.MinInt, -1 << 32, -1, 0, 1001, 1 << 32, 1<<32 + 1, math.MaxInt} {
		a, err := arena.New[string](most)
		is(t, "New", err, api.ErrRange)
		if a != nil {
			t.Errorf("New(%d): an arena beside the error", most)
		}
	}
}

// 3.1, Put: slots from 0 on, until there are as many things as may be; each is its thing's.
func TestPutUntilFull(t *testing.T) {
	for _, most := range []int{1, 2, 7, 1000} {
		a := made[int](t, most)
		for i := range most {
			puts(t, a, i+10, i, 0)
			if n := a.Many(); n != i+1 {
				t.Fatalf("of %d: %d things, want %d", most, n, i+1)
			}
		}
		for range 2 {
			h, err := a.Put(5)
			is(t, "Put", err, api.ErrFull)
			if h != (arena.Handle{}) || a.Many() != most {
				t.Fatalf("of %d: %v, %d things beside ErrFull", most, h, a.Many())
			}
		}
		for i := range most {
			has(t, a, arena.Handle{Slot: i}, i+10)
		}
		stale(t, a, arena.Handle{Slot: most}, 5)
	}
}

// 3.1, Put: as soon as one is taken there is room again, for one; its slot is given again and again, and its Age rises.
func TestPutAgain(t *testing.T) {
	for _, most := range []int{1, 3} {
		a := made[int](t, most)
		for i := range most {
			puts(t, a, i, i, 0)
		}
		for age := range 50 {
			h := arena.Handle{Slot: most - 1, Age: age}
			takes(t, a, h, most-1+age)
			stale(t, a, h, 7)
			puts(t, a, most+age, most-1, age+1)
			_, err := a.Put(7)
			is(t, "Put", err, api.ErrFull)
			stale(t, a, h, 7)
		}
	}
}

// 3.1, Put: of the free slots the one that was freed last, then those freed ahead of it, then new ones.
func TestPutFreedLast(t *testing.T) {
	a := made[string](t, 6)
	h := []arena.Handle{puts(t, a, "a", 0, 0), puts(t, a, "b", 1, 0), puts(t, a, "c", 2, 0), puts(t, a, "d", 3, 0)}
	takes(t, a, h[2], "c")
	takes(t, a, h[0], "a")
	takes(t, a, h[3], "d")
	puts(t, a, "e", 3, 1)
	f := puts(t, a, "f", 0, 1)
	takes(t, a, h[1], "b")
	takes(t, a, f, "f")
	puts(t, a, "g", 0, 2)
	puts(t, a, "h", 1, 1)
	puts(t, a, "i", 2, 1)
	puts(t, a, "j", 4, 0)
	puts(t, a, "k", 5, 0)
	_, err := a.Put("l")
	is(t, "Put", err, api.ErrFull)
	for i, age := range []int{2, 1, 1, 1, 0, 0} {
		has(t, a, arena.Handle{Slot: i, Age: age}, []string{"g", "h", "i", "e", "j", "k"}[i])
	}
}

// 3.1, Set: the thing is another one from then on, by the same handle, and no other one is changed.
func TestSet(t *testing.T) {
	a := made[string](t, 3)
	h, k := puts(t, a, "a", 0, 0), puts(t, a, "b", 1, 0)
	for _, x := range []string{"c", "", "d"} {
		is(t, "Set", a.Set(h, x), api.OK)
		has(t, a, h, x)
		has(t, a, k, "b")
		if n := a.Many(); n != 2 {
			t.Fatalf("%d things, want 2", n)
		}
	}
	takes(t, a, h, "d")
	is(t, "Set", a.Set(k, "e"), api.OK)
	takes(t, a, k, "e")
}

// 3.1: a free slot has nothing, neither by the Age that it had nor by the one that it will have.
func TestFreeSlot(t *testing.T) {
	a := made[string](t, 2)
	takes(t, a, puts(t, a, "a", 0, 0), "a")
	for _, age := range someNumbers {
		stale(t, a, arena.Handle{Slot: 0, Age: age}, "x")
		stale(t, a, arena.Handle{Slot: 1, Age: age}, "x")
	}
	has(t, a, puts(t, a, "b", 0, 1), "b")
}

// 3.1: a slot that never was, and another Age; what is there stays.
func TestWrongHandles(t *testing.T) {
	for _, most := range []int{1, 4, 1000} {
		a := made[string](t, most)
		for age := range 4 {
			here := puts(t, a, "a", 0, age)
			for _, slot := range someNumbers {
				for _, other := range someNumbers {
					if h := (arena.Handle{Slot: slot, Age: other}); h != here {
						stale(t, a, h, "x")
					}
				}
			}
			has(t, a, here, "a")
			takes(t, a, here, "a")
		}
	}
}

// 3.1: an arena that has nothing yet has nothing by any handle.
func TestNothingYet(t *testing.T) {
	a := made[string](t, 4)
	for _, slot := range someNumbers {
		for _, age := range someNumbers {
			stale(t, a, arena.Handle{Slot: slot, Age: age}, "x")
		}
	}
	puts(t, a, "a", 0, 0)
}

// 3.1: things of any type: their zero value is a thing, too, and of an array the arena has a copy.
func TestThings(t *testing.T) {
	a := made[[2]int](t, 1000)
	x := [2]int{1, 2}
	h := puts(t, a, x, 0, 0)
	x[0] = 9
	has(t, a, h, [2]int{1, 2})
	y, _ := a.Get(h)
	y[1] = 9
	has(t, a, h, [2]int{1, 2})
	has(t, a, puts(t, a, [2]int{}, 1, 0), [2]int{})

	b := made[error](t, 1)
	k := puts[error](t, b, nil, 0, 0)
	has[error](t, b, k, nil)
	takes[error](t, b, k, nil)
	stale[error](t, b, k, api.ErrArg)

	c := made[struct{}](t, 1)
	takes(t, c, puts(t, c, struct{}{}, 0, 0), struct{}{})
	stale(t, c, arena.Handle{}, struct{}{})
}

// P4: what one arena does is nothing to another one.
func TestTwoArenas(t *testing.T) {
	a, b := made[int](t, 2), made[int](t, 2)
	h, k := puts(t, a, 1, 0, 0), puts(t, b, 2, 0, 0)
	takes(t, a, h, 1)
	has(t, b, k, 2)
	puts(t, b, 3, 1, 0)
	if a.Many() != 0 || b.Many() != 2 {
		t.Errorf("%d and %d things, want 0 and 2", a.Many(), b.Many())
	}
}

// 3.1, Take: the thing is there no more: nothing of the arena holds on to it.
func TestTakeLetsGo(t *testing.T) {
	a := made[*[64]int](t, 1)
	h := puts(t, a, new([64]int), 0, 0)
	x, err := a.Take(h)
	is(t, "Take", err, api.OK)
	gone := make(chan struct{})
	runtime.SetFinalizer(x, func(*[64]int) { close(gone) })
	x = nil
	for range 100 {
		runtime.GC()
		select {
		case <-gone:
			runtime.KeepAlive(a)
			return
		default:
		}
		runtime.Gosched()
	}
	t.Error("a thing that was taken is kept")
	runtime.KeepAlive(a)
}
