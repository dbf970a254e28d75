package arena_test

import (
	"slices"
	"testing"

	"openbell/api"
	"openbell/arena"
)

// words does what 3.1 says, by its words: every slot's frees are told one by one, and looked through anew each time.
type words struct {
	most  int
	here  map[arena.Handle]int
	freed []int // slots, in the order in which they were freed
	had   []int // slots, in the order in which they were given
}

func (w *words) taken(slot int) bool {
	for h := range w.here {
		if h.Slot == slot {
			return true
		}
	}
	return false
}

// age is how often a slot was freed.
func (w *words) age(slot int) int {
	n := 0
	for _, s := range w.freed {
		if s == slot {
			n++
		}
	}
	return n
}

func (w *words) put(x int) (arena.Handle, api.Errno) {
	if len(w.here) == w.most {
		return arena.Handle{}, api.ErrFull
	}
	slot := 0
	for slices.Contains(w.had, slot) {
		slot++
	}
	for _, s := range w.freed {
		if !w.taken(s) {
			slot = s
		}
	}
	h := arena.Handle{Slot: slot, Age: w.age(slot)}
	w.here[h] = x
	w.had = append(w.had, slot)
	return h, api.OK
}

func (w *words) take(h arena.Handle) (int, api.Errno) {
	x, ok := w.here[h]
	if !ok {
		return 0, api.ErrMissing
	}
	delete(w.here, h)
	w.freed = append(w.freed, h.Slot)
	return x, api.OK
}

// die: numbers that look drawn, the same each time.
type die uint64

func (d *die) n(most int) int {
	*d = *d*6364136223846793005 + 1442695040888963407
	return int(uint64(*d>>33) % uint64(most))
}

// step does one thing to both, and holds the answers against each other; it tells the handle, if it put one.
func step(t *testing.T, a *arena.Arena[int], w *words, kind int, h arena.Handle, x int) (arena.Handle, bool) {
	t.Helper()
	switch kind {
	case 0:
		got, err := a.Put(x)
		want, e := w.put(x)
		is(t, "Put", err, e)
		if got != want {
			t.Fatalf("Put: %v, want %v", got, want)
		}
		return got, e == api.OK
	case 1:
		got, err := a.Take(h)
		want, e := w.take(h)
		is(t, "Take", err, e)
		if got != want {
			t.Fatalf("Take(%v): %d, want %d", h, got, want)
		}
	case 2:
		want := api.ErrMissing
		if _, ok := w.here[h]; ok {
			want, w.here[h] = api.OK, x
		}
		is(t, "Set", a.Set(h, x), want)
	}
	return arena.Handle{}, false
}

// 3.1 and 'A handle is its thing's alone': no two things ever have one handle, and each handle that ever was has its own thing, or none.
func TestHandleIsItsThingsAlone(t *testing.T) {
	d := die(11)
	for range 120 {
		most := 1 + d.n(9)
		a := made[int](t, most)
		w := &words{most: most, here: map[arena.Handle]int{}}
		var ever []arena.Handle
		lean := d.n(3)
		for i := range 120 {
			h := arena.Handle{Slot: d.n(most+2) - 1, Age: d.n(6) - 1}
			if len(ever) > 0 && d.n(4) > 0 {
				h = ever[d.n(len(ever))]
			}
			kind := []int{0, 1, 2, 0, lean}[d.n(5)]
			if got, ok := step(t, a, w, kind, h, i+1); ok {
				if slices.Contains(ever, got) {
					t.Fatalf("%v is given twice", got)
				}
				ever = append(ever, got)
			}
			if n := a.Many(); n != len(w.here) {
				t.Fatalf("%d things, want %d", n, len(w.here))
			}
			for _, h := range append(slices.Clone(ever), h) {
				x, err := a.Get(h)
				want := api.ErrMissing
				if _, ok := w.here[h]; ok {
					want = api.OK
				}
				is(t, "Get", err, want)
				if x != w.here[h] {
					t.Fatalf("Get(%v): %d, want %d", h, x, w.here[h])
				}
			}
		}
	}
}
