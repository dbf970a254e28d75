package many_test

import (
	"errors"
	"fmt"
	"math"
	"runtime"
	"slices"
	"strings"
	"testing"

	"openbell/api"
	"openbell/desk"
	"openbell/many"
)

// How many texts, and workers, there may be.
const (
	mostTexts   = 50
	mostWorkers = 16
)

// die: numbers that look drawn, the same each time.
type die uint64

func (d *die) n(most int) int {
	*d = *d*6364136223846793005 + 1442695040888963407
	return int(uint64(*d>>33) % uint64(most))
}

// text is a market's day, of some lines; some have errors.
func (d *die) text() string {
	s := fmt.Sprintf("table 0 1 1 2 2 3 30 5 35 7\nbands %d %d %d\nauction 2 1\nstart\n", d.n(2000), d.n(600), 95+d.n(10))
	words := []string{"tick", "tick", "tick", "phase", "quote", "refs", "orders 1", "orders 2", "parked", "halt", "open", "cancel 3", "x", "", "clear"}
	for i := range d.n(120) {
		if d.n(2) == 0 {
			s += fmt.Sprintf("%s %d %d %d %d\n", []string{"buy", "sell"}[d.n(2)], i+1, 1+d.n(4), 94+d.n(13), 1+d.n(9))
		} else {
			s += words[d.n(len(words)-d.n(2))] + "\n"
		}
	}
	return s
}

// texts are so many, of which some are empty.
func (d *die) texts(n int) []string {
	l := make([]string, n)
	for i := range l {
		if d.n(8) > 0 {
			l[i] = d.text()
		}
	}
	return l
}

// told are the sessions of texts, one by one.
func told(texts []string) []string {
	l := make([]string, len(texts))
	for i, s := range texts {
		l[i] = desk.Session(s)
	}
	return l
}

// answers checks what All answers without an error.
func answers(t *testing.T, texts []string, workers int, want []string) {
	t.Helper()
	got, err := many.All(texts, workers)
	if err != nil || !slices.Equal(got, want) {
		t.Fatalf("%d texts, %d workers: %.500q, error %v, want %.500q", len(texts), workers, got, err, want)
	}
}

// refuses checks that All answers a plain ErrLimit, and nothing beside it.
func refuses(t *testing.T, texts []string, workers int) {
	t.Helper()
	got, err := many.All(texts, workers)
	var at *api.At
	if api.Tell(err) != api.ErrLimit || errors.As(err, &at) || len(got) != 0 {
		t.Fatalf("%d texts, %d workers: %d answers, error %v (a place: %v)", len(texts), workers, len(got), err, at)
	}
}

// 11.1: no text has no answer, with however many workers.
func TestNoText(t *testing.T) {
	for workers := 1; workers <= mostWorkers; workers++ {
		answers(t, nil, workers, nil)
		answers(t, []string{}, workers, nil)
	}
}

// 11.1: ErrLimit of more than 50 texts, also if they are empty.
func TestTexts(t *testing.T) {
	d := die(50)
	full := d.texts(mostTexts)
	want := told(full)
	for workers := 1; workers <= mostWorkers; workers++ {
		answers(t, full, workers, want)
		refuses(t, append(slices.Clone(full), ""), workers)
		answers(t, make([]string, mostTexts), workers, told(make([]string, mostTexts)))
		refuses(t, make([]string, mostTexts+1), workers)
		refuses(t, make([]string, 1000), workers)
	}
}

// 11.1: ErrLimit, unless workers is from 1 to 16, also if there is no text.
func TestWorkers(t *testing.T) {
	d := die(16)
	for _, texts := range [][]string{nil, {""}, d.texts(3), d.texts(mostTexts), d.texts(mostTexts + 1)} {
		for _, workers := range []int{math.MinInt, math.MinInt32, -16, -1, 0, mostWorkers + 1, 18, 100, 1 << 32, 1<<32 + 1, math.MaxInt} {
			refuses(t, texts, workers)
		}
	}
	for _, workers := range []int{1, 2, mostWorkers - 1, mostWorkers} {
		answers(t, []string{"band 50 1000"}, workers, []string{"45 55\n"})
	}
}

// 11.1: in order, with fewer texts than workers, as many, and more.
func TestOrder(t *testing.T) {
	for n := range mostTexts + 1 {
		var texts, want []string
		for i := range n {
			texts = append(texts, fmt.Sprintf("band %d 0", i+1))
			want = append(want, fmt.Sprintf("%d %d\n", i+1, i+1))
		}
		for workers := 1; workers <= mostWorkers; workers++ {
			answers(t, texts, workers, want)
		}
	}
}

// 11.1: a text's error is its answer's alone: it is none of All's, and the others are answered as they are alone.
func TestErrors(t *testing.T) {
	texts := []string{"band 50 1000", "x\nhelp x", "", strings.Repeat(" ", api.MaxText+1), "start\nphase", strings.Repeat(" ", api.MaxText), "band 0 0\nband 1 0"}
	want := []string{"45 55\n", "error 3\nerror 3\n", "ok\n", "error 4\n", "error 8\nerror 6\n", "ok\n", "error 2\n1 1\n"}
	for workers := 1; workers <= mostWorkers; workers++ {
		answers(t, texts, workers, want)
		for i := range texts {
			answers(t, texts[i:], workers, want[i:])
			answers(t, texts[i:i+1], workers, want[i:i+1])
		}
	}
}

// 11.1: each text is a market of its own: the same one many times is answered the same many times.
func TestApart(t *testing.T) {
	text := "table 0 1 1 2 2 3\nbands 1000 1000 100\nauction 1 0\nstart\ntick\ntick\nsell 1 1 101 5\nbuy 2 2 0 2\norders 2\n"
	one := "table\nbands\nauction\nstart\n1\n2\ntaken\ntaken, 2 1 101 2\n1 1 101 3\n"
	texts := append(slices.Repeat([]string{text}, mostTexts-1), "phase")
	want := append(slices.Repeat([]string{one}, mostTexts-1), "error 6\n")
	for workers := 1; workers <= mostWorkers; workers++ {
		answers(t, texts, workers, want)
	}
}

// 11.1: however many workers there are makes no difference.
func TestHoweverMany(t *testing.T) {
	d := die(11)
	for range 25 {
		texts := d.texts(d.n(mostTexts + 1))
		want := told(texts)
		for workers := 1; workers <= mostWorkers; workers++ {
			answers(t, texts, workers, want)
		}
	}
}

// P4: what is handed in is not written into, nor what stands behind it, and is not kept; what is handed out is the caller's.
func TestLists(t *testing.T) {
	d := die(4)
	room := d.texts(12)
	was := slices.Clone(room)
	want := told(room[:8])
	for workers := 1; workers <= mostWorkers; workers++ {
		one, _ := many.All(room[:8], workers)
		two, _ := many.All(room[:8], workers)
		if !slices.Equal(room, was) {
			t.Fatalf("All wrote into what it was handed, with %d workers", workers)
		}
		clear(one[:cap(one)])
		if !slices.Equal(two, want) || !slices.Equal(room, was) {
			t.Fatalf("what All answered is not the caller's, with %d workers", workers)
		}
		clear(room)
		if !slices.Equal(two, want) {
			t.Fatalf("All kept what it was handed, with %d workers", workers)
		}
		copy(room, was)
	}
	refuses(t, room, 0)
	if !slices.Equal(room, was) {
		t.Fatal("All wrote into what it was handed, beside an error")
	}
}

// No worker is left behind.
func TestWorkersEnd(t *testing.T) {
	was := runtime.NumGoroutine()
	for i := range 300 {
		many.All([]string{"help", ""}, 1+i%mostWorkers)
		many.All(nil, 1+i%mostWorkers)
		many.All(make([]string, mostTexts+1), mostWorkers)
	}
	// One that has said it is done may take a little time to be gone.
	for range 1000 {
		if runtime.NumGoroutine() <= was {
			return
		}
		runtime.Gosched()
	}
	if n := runtime.NumGoroutine(); n > was+mostWorkers {
		t.Fatalf("%d goroutines were there, and %d are", was, n)
	}
}
