package calendar_test

import (
	"errors"
	"math"
	"slices"
	"testing"

	"openbell/api"
	"openbell/calendar"
)

// days are all tables that may be, without their ticks.
var days = [][]int{
	{api.PreOpen},
	{api.PreOpen, api.Opening},
	{api.PreOpen, api.Opening, api.Trading},
	{api.PreOpen, api.Opening, api.Trading, api.Closing},
	{api.PreOpen, api.Opening, api.Trading, api.Ended},
	{api.PreOpen, api.Opening, api.Trading, api.Closing, api.Ended},
}

// someNumbers are ticks, phases and kinds of which none may be.
var someNumbers = []int{math.MinInt, math.MinInt + 1, -1 << 32, -8, -1, 0, 8, 9, 100, 1 << 32, 1<<32 + 1, 1<<32 + 2, 1<<32 + 3, math.MaxInt - 1, math.MaxInt}

// rows gives each phase its tick.
func rows(phases []int, ticks ...int) []calendar.Row {
	var l []calendar.Row
	for i, p := range phases {
		l = append(l, calendar.Row{At: ticks[i], Phase: p})
	}
	return l
}

// made is the table of rows that may be.
func made(t *testing.T, l []calendar.Row) *calendar.Table {
	t.Helper()
	table, err := calendar.New(l)
	if table == nil || err != nil {
		t.Fatalf("New(%v): %v, %v, want a table", l, table, err)
	}
	return table
}

// refused checks an error, and its place (-1: it has none), and that nothing is beside it (P2).
func refused(t *testing.T, l []calendar.Row, want api.Errno, place int) {
	t.Helper()
	table, err := calendar.New(l)
	got := -1
	var at *api.At
	if errors.As(err, &at) {
		got = at.Place
	}
	if table != nil || api.Tell(err) != want || got != place {
		t.Errorf("New(%v): %v, %v at %d, want %v at %d", l, table, err, got, want, place)
	}
}

// 2.1, New: the rows that may be, the ticks as near as may be, and the last one as far.
func TestNew(t *testing.T) {
	for _, day := range days {
		made(t, rows(day, 0, 1, 2, 3, 4))
		made(t, rows(day, 0, 10, 200, 3_000, 40_000))
		late := rows(day, 0, 1, 2, 3, 4)
		if n := len(late) - 1; n > 0 {
			late[n].At = api.MaxTime
			made(t, late)
		}
	}
}

// 2.1, New: no row, and too many, have no place; too many are told ahead of what is wrong with a row.
func TestNewHowMany(t *testing.T) {
	refused(t, nil, api.ErrNone, -1)
	refused(t, []calendar.Row{}, api.ErrNone, -1)
	many := rows(days[5], 0, 1, 2, 3, 4)
	for len(many) < api.MaxRows {
		many = append(many, calendar.Row{At: len(many), Phase: api.Ended})
	}
	refused(t, many, api.ErrArg, 5)
	refused(t, append(many, calendar.Row{At: 99, Phase: api.Ended}), api.ErrLimit, -1)
	refused(t, make([]calendar.Row, api.MaxRows), api.ErrArg, 0)
	refused(t, make([]calendar.Row, api.MaxRows+1), api.ErrLimit, -1)
	refused(t, make([]calendar.Row, 1000), api.ErrLimit, -1)
}

// 2.1, New: the first row is PreOpen at 0, and nothing else.
func TestNewFirst(t *testing.T) {
	for _, n := range append([]int{1, 2, api.MaxTime, api.MaxTime + 1}, someNumbers...) {
		if n != 0 {
			refused(t, []calendar.Row{{At: n, Phase: api.PreOpen}}, api.ErrArg, 0)
			refused(t, rows(days[5], n, 1, 2, 3, 4), api.ErrArg, 0)
		}
	}
	for _, p := range append([]int{api.Opening, api.Trading, api.Volatility, api.Closing, api.Halt, api.Ended}, someNumbers...) {
		refused(t, []calendar.Row{{At: 0, Phase: p}}, api.ErrArg, 0)
	}
	// What is wrong with the next row is told no sooner.
	refused(t, []calendar.Row{{At: 1, Phase: api.PreOpen}, {At: 0, Phase: api.Halt}}, api.ErrArg, 0)
}

// 2.1, New: of all phases behind all phases just those that are told may follow.
func TestNewFollows(t *testing.T) {
	phases := append([]int{api.PreOpen, api.Opening, api.Trading, api.Volatility, api.Closing, api.Halt, api.Ended}, someNumbers...)
	for _, day := range days {
		for _, p := range phases {
			next := append(slices.Clone(day), p)
			l := rows(next, []int{0, 10, 20, 30, 40, 50}[:len(next)]...)
			may := slices.ContainsFunc(days, func(d []int) bool { return slices.Equal(d, next) })
			if may {
				made(t, l)
			} else {
				refused(t, l, api.ErrArg, len(day))
			}
		}
	}
}

// 2.1, New: a tick is above the one ahead.
func TestNewOrder(t *testing.T) {
	for i := 1; i < 5; i++ {
		for _, at := range []int{i*10 - 10, i*10 - 11, 0, -1, math.MinInt} {
			l := rows(days[5], 0, 10, 20, 30, 40)
			l[i].At = at
			refused(t, l, api.ErrOrder, i)
		}
		l := rows(days[5], 0, 10, 20, 30, 40)
		l[i].At = i*10 - 9
		made(t, l)
	}
}

// 2.1, New: a tick is at most MaxTime.
func TestNewRange(t *testing.T) {
	for i := 1; i < 5; i++ {
		for _, at := range []int{api.MaxTime + 1, 1 << 32, 1<<32 + 45, math.MaxInt} {
			l := rows(days[5], 0, 10, 20, 30, 40)
			l[i].At = at
			refused(t, l, api.ErrRange, i)
		}
	}
}

// 2.1, New: of a row the phase is told first, then the order; of several rows the first one's.
func TestNewWhichFirst(t *testing.T) {
	for _, c := range []struct {
		l     []calendar.Row
		want  api.Errno
		place int
	}{
		{[]calendar.Row{{0, api.PreOpen}, {0, api.Trading}}, api.ErrArg, 1},
		{[]calendar.Row{{0, api.PreOpen}, {api.MaxTime + 1, api.Trading}}, api.ErrArg, 1},
		// Not above a row that is above MaxTime itself: that one is told, being ahead.
		{[]calendar.Row{{0, api.PreOpen}, {api.MaxTime + 2, api.Opening}, {api.MaxTime + 1, api.Trading}}, api.ErrRange, 1},
		{[]calendar.Row{{0, api.PreOpen}, {0, api.Opening}, {5, api.Closing}}, api.ErrOrder, 1},
		{[]calendar.Row{{0, api.PreOpen}, {5, api.Opening}, {5, api.Trading}, {6, api.Opening}}, api.ErrOrder, 2},
		{[]calendar.Row{{0, api.PreOpen}, {5, api.Opening}, {6, api.Closing}, {6, api.Ended}}, api.ErrArg, 2},
		{[]calendar.Row{{0, api.PreOpen}, {5, api.Opening}, {api.MaxTime + 1, api.Trading}, {6, api.Ended}}, api.ErrRange, 2},
	} {
		refused(t, c.l, c.want, c.place)
	}
}

// 2.1, Phase: the tick of each row, the one ahead of it, and those far away.
func TestPhase(t *testing.T) {
	table := made(t, rows(days[5], 0, 10, 25, 26, api.MaxTime))
	for _, c := range []struct{ now, phase, next int }{
		{math.MinInt, api.PreOpen, 10},
		{-1, api.PreOpen, 10},
		{0, api.PreOpen, 10},
		{1, api.PreOpen, 10},
		{9, api.PreOpen, 10},
		{10, api.Opening, 25},
		{11, api.Opening, 25},
		{24, api.Opening, 25},
		{25, api.Trading, 26},
		{26, api.Closing, api.MaxTime},
		{api.MaxTime - 1, api.Closing, api.MaxTime},
		{api.MaxTime, api.Ended, -1},
		{api.MaxTime + 1, api.Ended, -1},
		{math.MaxInt, api.Ended, -1},
	} {
		if phase, next := table.Phase(c.now); phase != c.phase || next != c.next {
			t.Errorf("Phase(%d): %d, %d, want %d, %d", c.now, phase, next, c.phase, c.next)
		}
	}
}

// 2.1, Phase: behind the last row there is none, whichever that is; one row holds ever.
func TestPhaseLast(t *testing.T) {
	for _, day := range days {
		table := made(t, rows(day, 0, 1, 2, 3, 4))
		last := len(day) - 1
		for _, now := range []int{last, last + 1, 1 << 40, math.MaxInt} {
			if phase, next := table.Phase(now); phase != day[last] || next != -1 {
				t.Errorf("%v: Phase(%d): %d, %d, want %d, -1", day, now, phase, next, day[last])
			}
		}
	}
	alone := made(t, rows(days[0], 0))
	if phase, next := alone.Phase(math.MinInt); phase != api.PreOpen || next != -1 {
		t.Errorf("one row: Phase(MinInt): %d, %d, want PreOpen, -1", phase, next)
	}
}

// 'One phase at a time (2)': from tick to tick the phase is the same until the told tick, and there it is the next one of the day.
func TestOnePhaseAtATime(t *testing.T) {
	for _, day := range days {
		for step := 1; step < 5; step++ {
			table := made(t, rows(day, 0, step, step+3, 2*step+3, 3*step+5))
			at := 0
			phase, next := table.Phase(0)
			for now := range 40 {
				if now == next {
					at++
					phase, next = table.Phase(now)
				}
				p, n := table.Phase(now)
				if at >= len(day) || p != day[at] || p != phase || n != next || n != -1 && n <= now {
					t.Fatalf("%v by %d: Phase(%d): %d, %d, ahead of it %d, %d", day, step, now, p, n, phase, next)
				}
			}
			if at != len(day)-1 || next != -1 {
				t.Errorf("%v by %d: ended at %d, next is %d", day, step, at, next)
			}
		}
	}
}

// P4: the list is neither written into nor kept, nor what stands behind its length.
func TestListIsTheCallers(t *testing.T) {
	room := rows(days[5], 0, 10, 20, 30, 40)
	want := slices.Clone(room)
	table := made(t, room[:3])
	again := made(t, room)
	if !slices.Equal(room, want) {
		t.Fatalf("the list is %v now, was %v", room, want)
	}
	for i := range room {
		room[i] = calendar.Row{At: 7, Phase: api.Halt}
	}
	if phase, next := table.Phase(15); phase != api.Opening || next != 20 {
		t.Errorf("Phase(15): %d, %d, want Opening, 20", phase, next)
	}
	if phase, next := table.Phase(35); phase != api.Trading || next != -1 {
		t.Errorf("Phase(35): %d, %d, want Trading, -1", phase, next)
	}
	if phase, next := again.Phase(35); phase != api.Closing || next != 40 {
		t.Errorf("Phase(35): %d, %d, want Closing, 40", phase, next)
	}
}

// 2.2, Takes and Auctions: all phases, all kinds, and what is none.
func TestTakes(t *testing.T) {
	all := []int{api.Limit, api.Market, api.Auction, api.Close}
	phases := append([]int{api.PreOpen, api.Opening, api.Trading, api.Volatility, api.Closing, api.Halt, api.Ended}, someNumbers...)
	for _, phase := range phases {
		var kinds []int
		auction := true
		switch phase {
		case api.PreOpen:
			kinds = []int{api.Limit, api.Auction, api.Close}
		case api.Opening, api.Volatility, api.Closing:
			kinds = all
		case api.Trading:
			kinds, auction = []int{api.Limit, api.Market, api.Close}, false
		default:
			auction = false
		}
		for _, kind := range append(slices.Concat(all, []int{5, 6, 7}), someNumbers...) {
			if got, want := calendar.Takes(phase, kind), slices.Contains(kinds, kind); got != want {
				t.Errorf("Takes(%d, %d): %v, want %v", phase, kind, got, want)
			}
		}
		if got := calendar.Auctions(phase); got != auction {
			t.Errorf("Auctions(%d): %v, want %v", phase, got, auction)
		}
	}
}
