package engine_test

import (
	"errors"
	"fmt"
	"math"
	"slices"
	"testing"

	"openbell/api"
	"openbell/calendar"
	"openbell/engine"
)

var bothSides = []int{api.Buy, api.Sell}

var phases = []int{api.PreOpen, api.Opening, api.Trading, api.Volatility, api.Closing, api.Halt, api.Ended}

var kinds = []int{api.Limit, api.Market, api.Auction, api.Close}

// When the phases of day's table begin.
const (
	opens  = 2
	trades = 4
	closes = 30
	ends   = 33
)

// day is a market's: prices may go from 90 to 110, and from the last one half a tenth at once; a volatility auction lasts three ticks, and may be made longer once.
func day() engine.Config {
	return engine.Config{
		Table:   rows(0, api.PreOpen, opens, api.Opening, trades, api.Trading, closes, api.Closing, ends, api.Ended),
		Static:  1000,
		Dynamic: 500,
		Price:   100,
		Ticks:   3,
		More:    1,
	}
}

// rows are those of a table, of ticks and phases by turns.
func rows(l ...int) []calendar.Row {
	var out []calendar.Row
	for i := 0; i < len(l); i += 2 {
		out = append(out, calendar.Row{At: l[i], Phase: l[i+1]})
	}
	return out
}

// buys and sells are Limit orders.
func buys(id, qty, price int) api.Order {
	return api.Order{Id: id, Side: api.Buy, Kind: api.Limit, Price: price, Qty: qty}
}

func sells(id, qty, price int) api.Order {
	return api.Order{Id: id, Side: api.Sell, Kind: api.Limit, Price: price, Qty: qty}
}

// market is an order at any price; its Price is 1, as it lies.
func market(id, side, qty int) api.Order {
	return api.Order{Id: id, Side: side, Kind: api.Market, Price: 1, Qty: qty}
}

// as is an order of another kind.
func as(kind int, o api.Order) api.Order {
	o.Kind = kind
	return o
}

func fill(buyer, seller, price, qty int) api.Fill {
	return api.Fill{Buyer: buyer, Seller: seller, Price: price, Qty: qty}
}

// is checks that an error is a plain Errno, without a place (P3).
func is(t *testing.T, what string, err error, want api.Errno) {
	t.Helper()
	var at *api.At
	if api.Tell(err) != want || errors.As(err, &at) {
		t.Fatalf("%s: error %v (a place: %v), want %v", what, err, at, want)
	}
}

// starts is a new market.
func starts(t *testing.T, c engine.Config) *engine.Engine {
	t.Helper()
	e, err := engine.New(c)
	is(t, fmt.Sprintf("New(%+v)", c), err, api.OK)
	return e
}

// view is all that is to be seen of a market.
type view struct {
	phase, now, anchor, last int
	quote                    api.Quote
	lie, wait                []api.Order
}

// is says whether two views are of the same things.
func (v view) is(x view) bool {
	plain := v.phase == x.phase && v.now == x.now && v.anchor == x.anchor && v.last == x.last && v.quote == x.quote
	return plain && slices.Equal(v.lie, x.lie) && slices.Equal(v.wait, x.wait)
}

// looks is what is to be seen of a market now.
func looks(t *testing.T, e *engine.Engine) view {
	t.Helper()
	anchor, last := e.Refs()
	return view{phase: e.Phase(), now: e.Now(), anchor: anchor, last: last, quote: e.Quote(), lie: lying(t, e), wait: e.Parked()}
}

// lying are the orders of both sides, each with the best first.
func lying(t *testing.T, e *engine.Engine) []api.Order {
	t.Helper()
	var l []api.Order
	for _, side := range bothSides {
		o, err := e.Side(side)
		is(t, "Side", err, api.OK)
		l = append(l, o...)
	}
	return l
}

// lie checks which orders lie, wait which ones wait.
func lie(t *testing.T, e *engine.Engine, want ...api.Order) {
	t.Helper()
	if got := lying(t, e); !slices.Equal(got, want) {
		t.Fatalf("there lie %v, want %v", got, want)
	}
}

func wait(t *testing.T, e *engine.Engine, want ...api.Order) {
	t.Helper()
	if got := e.Parked(); !slices.Equal(got, want) {
		t.Fatalf("there wait %v, want %v", got, want)
	}
}

// phase, refs and quote check what a market tells.
func phase(t *testing.T, e *engine.Engine, want int) {
	t.Helper()
	if got := e.Phase(); got != want {
		t.Fatalf("phase %d at %d, want %d", got, e.Now(), want)
	}
}

func refs(t *testing.T, e *engine.Engine, anchor, last int) {
	t.Helper()
	if a, l := e.Refs(); a != anchor || l != last {
		t.Fatalf("refs %d, %d, want %d, %d", a, l, anchor, last)
	}
}

func quote(t *testing.T, e *engine.Engine, price, qty, surplus int) {
	t.Helper()
	if got, want := e.Quote(), (api.Quote{Price: price, Qty: qty, Surplus: surplus}); got != want {
		t.Fatalf("quote %v in phase %d, want %v", got, e.Phase(), want)
	}
}

// takes checks that an order is taken, and what it trades at once.
func takes(t *testing.T, e *engine.Engine, o api.Order, want ...api.Fill) {
	t.Helper()
	got, err := e.Order(o)
	is(t, fmt.Sprintf("Order(%+v)", o), err, api.OK)
	if !slices.Equal(got, want) {
		t.Fatalf("Order(%+v): %v, want %v", o, got, want)
	}
}

// all lets orders be taken that trade nothing at once.
func all(t *testing.T, e *engine.Engine, l ...api.Order) {
	t.Helper()
	for _, o := range l {
		takes(t, e, o)
	}
}

// refuses checks an order's error, that nothing stands beside it, and that nothing is changed (P2).
func refuses(t *testing.T, e *engine.Engine, o api.Order, want api.Errno) {
	t.Helper()
	was := looks(t, e)
	got, err := e.Order(o)
	is(t, fmt.Sprintf("Order(%+v) in phase %d", o, e.Phase()), err, want)
	if len(got) != 0 {
		t.Fatalf("Order(%+v): %v beside an error", o, got)
	}
	same(t, e, was)
}

// same checks that all is as it was.
func same(t *testing.T, e *engine.Engine, was view) {
	t.Helper()
	if now := looks(t, e); !now.is(was) {
		t.Fatalf("it was\n%+v, and is\n%+v", was, now)
	}
}

// says checks a call's error, and, if there is to be one, that nothing is changed.
func says(t *testing.T, e *engine.Engine, what string, call func() error, want api.Errno) {
	t.Helper()
	was := looks(t, e)
	is(t, fmt.Sprintf("%s in phase %d", what, e.Phase()), call(), want)
	if want != api.OK {
		same(t, e, was)
	}
}

func cancels(t *testing.T, e *engine.Engine, id int, want api.Errno) {
	t.Helper()
	says(t, e, fmt.Sprint("Cancel ", id), func() error { return e.Cancel(id) }, want)
}

func halts(t *testing.T, e *engine.Engine, want api.Errno) {
	t.Helper()
	says(t, e, "Halt", e.Halt, want)
}

func goesOn(t *testing.T, e *engine.Engine, want api.Errno) {
	t.Helper()
	says(t, e, "Open", e.Open, want)
}

// until lets ticks go by up to one, and checks what the last of them trades; those ahead of it are to trade nothing.
func until(t *testing.T, e *engine.Engine, now int, want ...api.Fill) {
	t.Helper()
	for e.Now() < now {
		was := e.Now()
		got, err := e.Tick()
		is(t, fmt.Sprintf("Tick at %d", was), err, api.OK)
		if e.Now() != was+1 {
			t.Fatalf("a tick behind %d it is %d", was, e.Now())
		}
		if e.Now() < now && len(got) > 0 || e.Now() == now && !slices.Equal(got, want) {
			t.Fatalf("the tick to %d: %v, want %v at %d", e.Now(), got, want, now)
		}
	}
}

// in is a market of day without orders, in a phase.
func in(t *testing.T, want int) *engine.Engine {
	t.Helper()
	e := starts(t, day())
	switch want {
	case api.Opening:
		until(t, e, opens)
	case api.Trading, api.Volatility, api.Halt:
		until(t, e, trades)
	case api.Closing:
		until(t, e, closes)
	case api.Ended:
		until(t, e, ends)
	}
	if want == api.Volatility || want == api.Halt {
		halts(t, e, api.OK)
	}
	if want == api.Volatility {
		goesOn(t, e, api.OK)
	}
	phase(t, e, want)
	return e
}

// 9.1: what a new market is.
func TestNew(t *testing.T) {
	for _, c := range []engine.Config{
		day(),
		{Table: rows(0, api.PreOpen), Price: 1, Ticks: 1},
		{Table: rows(0, api.PreOpen), Price: api.MaxPrice, Ticks: api.MaxTime, More: 10, Static: api.MaxBand, Dynamic: api.MaxBand},
	} {
		e := starts(t, c)
		phase(t, e, api.PreOpen)
		if e.Now() != 0 {
			t.Fatalf("a new market's tick is %d", e.Now())
		}
		refs(t, e, c.Price, c.Price)
		quote(t, e, 0, 0, 0)
		lie(t, e)
		wait(t, e)
	}
}

// fails checks New's error, with its place (-1: none), and that no market stands beside it.
func fails(t *testing.T, c engine.Config, want api.Errno, place int) {
	t.Helper()
	e, err := engine.New(c)
	if e != nil {
		t.Fatalf("New(%+v): a market beside %v", c, err)
	}
	var at *api.At
	if place < 0 {
		is(t, fmt.Sprintf("New(%+v)", c), err, want)
	} else if !errors.As(err, &at) || at.Err != want || at.Place != place || api.Tell(err) != want {
		t.Fatalf("New(%+v): error %v, want %v at %d", c, err, want, place)
	}
}

// 9.1: what calendar.New says of Table comes first, with its place, whatever is wrong besides.
func TestNewTable(t *testing.T) {
	long := rows(0, api.PreOpen, 1, api.Opening, 2, api.Trading, 3, api.Closing, 4, api.Ended)
	for len(long) <= api.MaxRows {
		long = append(long, calendar.Row{At: len(long), Phase: api.Ended})
	}
	for _, c := range []struct {
		table []calendar.Row
		want  api.Errno
		place int
	}{
		{nil, api.ErrNone, -1},
		{rows(), api.ErrNone, -1},
		{long, api.ErrLimit, -1},
		{rows(1, api.PreOpen), api.ErrArg, 0},
		{rows(0, api.Opening), api.ErrArg, 0},
		{rows(0, api.PreOpen, 5, api.Trading), api.ErrArg, 1},
		{rows(0, api.PreOpen, 5, api.Opening, 6, api.Volatility), api.ErrArg, 2},
		{rows(0, api.PreOpen, 5, api.Opening, 6, api.Trading, 7, api.Halt), api.ErrArg, 3},
		{rows(0, api.PreOpen, 5, api.Opening, 5, api.Trading), api.ErrOrder, 2},
		{rows(0, api.PreOpen, api.MaxTime, api.Opening, api.MaxTime+1, api.Trading), api.ErrRange, 2},
	} {
		for _, price := range []int{100, 0} {
			for _, ticks := range []int{3, 0} {
				x := day()
				x.Table, x.Price, x.Ticks = c.table, price, ticks
				fails(t, x, c.want, c.place)
			}
		}
	}
}

// 9.1: what bands.New says.
func TestNewBands(t *testing.T) {
	for _, n := range []int{math.MinInt, -1, api.MaxBand + 1, 1 << 32, math.MaxInt} {
		c := day()
		c.Static = n
		fails(t, c, api.ErrRange, -1)
		c = day()
		c.Dynamic = n
		fails(t, c, api.ErrRange, -1)
	}
	for _, n := range []int{math.MinInt, -1, 0, api.MaxPrice + 1, 1<<32 + 1, math.MaxInt} {
		c := day()
		c.Price = n
		fails(t, c, api.ErrRange, -1)
	}
}

// 9.1: Ticks from 1 to MaxTime, More from 0 to 10.
func TestNewTicksMore(t *testing.T) {
	for _, n := range []int{math.MinInt, -1, 0, api.MaxTime + 1, 1<<32 + 1, math.MaxInt} {
		c := day()
		c.Ticks = n
		fails(t, c, api.ErrRange, -1)
	}
	for _, n := range []int{math.MinInt, -1, 11, 1 << 32, math.MaxInt} {
		c := day()
		c.More = n
		fails(t, c, api.ErrRange, -1)
	}
	for _, ticks := range []int{1, 2, api.MaxTime - 1, api.MaxTime} {
		for more := range 11 {
			c := day()
			c.Ticks, c.More = ticks, more
			starts(t, c)
		}
	}
}

// P4: the table that is handed in is neither kept nor written into.
func TestNewKeepsNothing(t *testing.T) {
	c := day()
	room := append(slices.Clone(c.Table), rows(-7, -8, -7, -8)...)
	c.Table = room[:len(c.Table)]
	e := starts(t, c)
	if want := append(day().Table, rows(-7, -8, -7, -8)...); !slices.Equal(room, want) {
		t.Fatalf("New made %v of %v", room, want)
	}
	for i := range room {
		room[i] = calendar.Row{At: 1 + i, Phase: api.Ended}
	}
	until(t, e, opens-1)
	phase(t, e, api.PreOpen)
	until(t, e, opens)
	phase(t, e, api.Opening)
}

// 9.1: a Quote in PreOpen and in Opening; with orders of one side there is none.
func TestQuoteAhead(t *testing.T) {
	e := starts(t, day())
	takes(t, e, buys(1, 5, 104))
	quote(t, e, 0, 0, 0)
	takes(t, e, sells(2, 3, 98))
	quote(t, e, 104, 3, 2)
	until(t, e, opens)
	phase(t, e, api.Opening)
	quote(t, e, 104, 3, 2)
	takes(t, e, market(3, api.Sell, 4))
	quote(t, e, 98, 5, -2)
	cancels(t, e, 1, api.OK)
	quote(t, e, 0, 0, 0)
	lie(t, e, market(3, api.Sell, 4), sells(2, 3, 98))
}

// 9.1: who waits is not in the Quote, and is so from the time on when it lies.
func TestQuoteWithoutParked(t *testing.T) {
	e := starts(t, day())
	all(t, e, buys(1, 5, 100), as(api.Close, sells(2, 3, 100)))
	quote(t, e, 0, 0, 0)
	until(t, e, closes)
	quote(t, e, 100, 3, 2)
}

// 9.1: no Quote in Trading, in Halt and when the day has Ended, and one in Volatility and Closing, of the same orders.
func TestQuoteByPhase(t *testing.T) {
	e := starts(t, day())
	all(t, e, buys(1, 5, 104), sells(2, 3, 98))
	halts(t, e, api.OK)
	quote(t, e, 0, 0, 0)
	until(t, e, trades)
	quote(t, e, 0, 0, 0)
	goesOn(t, e, api.OK)
	phase(t, e, api.Volatility)
	quote(t, e, 104, 3, 2)
	halts(t, e, api.OK)
	quote(t, e, 0, 0, 0)
	until(t, e, closes)
	goesOn(t, e, api.OK)
	phase(t, e, api.Closing)
	quote(t, e, 104, 3, 2)
	until(t, e, ends, fill(1, 2, 104, 3))
	quote(t, e, 0, 0, 0)

	e = in(t, api.Trading)
	all(t, e, buys(1, 5, 99), sells(2, 3, 101))
	quote(t, e, 0, 0, 0)
	for _, p := range phases {
		quote(t, in(t, p), 0, 0, 0)
	}
}

// 9.1: the Quote is around Last, not around Anchor, and Last is a price of it, though nobody names it.
func TestQuoteAroundLast(t *testing.T) {
	e := in(t, api.Trading)
	takes(t, e, sells(1, 1, 103))
	takes(t, e, buys(2, 1, 103), fill(2, 1, 103, 1))
	refs(t, e, 100, 103)
	halts(t, e, api.OK)
	goesOn(t, e, api.OK)
	all(t, e, market(3, api.Buy, 2), market(4, api.Sell, 3))
	quote(t, e, 103, 2, -1)
	cancels(t, e, 3, api.OK)
	cancels(t, e, 4, api.OK)
	all(t, e, buys(5, 4, 109), sells(6, 4, 91))
	quote(t, e, 103, 4, 0)
	// Where Last itself is no good, the nearest one that is.
	cancels(t, e, 5, api.OK)
	takes(t, e, buys(7, 4, 97))
	quote(t, e, 97, 4, 0)
	cancels(t, e, 6, api.OK)
	cancels(t, e, 7, api.OK)
	all(t, e, buys(8, 4, 109), sells(9, 4, 105))
	quote(t, e, 105, 4, 0)
}

// 9.1: Side is that of the book, or ErrArg; Parked are those that wait, as they came.
func TestSideAndParked(t *testing.T) {
	e := in(t, api.Opening)
	all(t, e,
		as(api.Close, sells(9, 2, 95)), as(api.Close, buys(8, 1, 105)), as(api.Close, sells(7, 3, 90)),
		buys(1, 1, 101), buys(2, 2, 102), market(3, api.Buy, 3), buys(4, 4, 101),
		sells(5, 5, 99), as(api.Auction, sells(6, 6, 98)))
	lie(t, e, market(3, api.Buy, 3), buys(2, 2, 102), buys(1, 1, 101), buys(4, 4, 101), as(api.Auction, sells(6, 6, 98)), sells(5, 5, 99))
	wait(t, e, as(api.Close, sells(9, 2, 95)), as(api.Close, buys(8, 1, 105)), as(api.Close, sells(7, 3, 90)))
	for _, p := range phases {
		e := in(t, p)
		for _, side := range []int{0, -1, 3, 1 << 32, 1<<32 + 1, math.MinInt, math.MaxInt} {
			l, err := e.Side(side)
			is(t, fmt.Sprint("Side ", side), err, api.ErrArg)
			if len(l) != 0 {
				t.Fatalf("Side %d: %v beside an error", side, l)
			}
		}
		lie(t, e)
		wait(t, e)
	}
}

// spoil writes into a list, and behind it, as far as its memory goes.
func spoil[T any](l []T) {
	var none T
	l = l[:cap(l)]
	for i := range l {
		l[i] = none
	}
}

// P4: what is handed out is the caller's: to write into it changes nothing.
func TestWhatIsTold(t *testing.T) {
	e := in(t, api.Opening)
	all(t, e, buys(1, 5, 101), buys(2, 5, 99), sells(3, 2, 100), sells(4, 1, 99), as(api.Close, buys(5, 1, 100)), as(api.Close, buys(6, 1, 100)))
	was := looks(t, e)
	for range 2 {
		buy, _ := e.Side(api.Buy)
		sell, _ := e.Side(api.Sell)
		one, two := e.Parked(), e.Parked()
		spoil(buy)
		if sell[0] != sells(4, 1, 99) {
			t.Fatalf("sells: %v", sell)
		}
		spoil(sell)
		spoil(one)
		if two[0] != as(api.Close, buys(5, 1, 100)) {
			t.Fatalf("parked: %v", two)
		}
		spoil(two)
		same(t, e, was)
	}
	until(t, e, trades-1)
	auction, err := e.Tick()
	is(t, "Tick", err, api.OK)
	was = looks(t, e)
	spoil(auction)
	same(t, e, was)
	met, err := e.Order(sells(7, 3, 99))
	is(t, "Order", err, api.OK)
	spoil(auction)
	if want := []api.Fill{fill(1, 7, 101, 2), fill(2, 7, 99, 1)}; !slices.Equal(met, want) {
		t.Fatalf("%v, want %v", met, want)
	}
	was = looks(t, e)
	spoil(met)
	same(t, e, was)
}

// Asking changes nothing, in no phase.
func TestAskingChangesNothing(t *testing.T) {
	for _, p := range phases {
		e := in(t, p)
		if calendar.Takes(p, api.Limit) {
			all(t, e, buys(1, 5, 95), sells(2, 5, 105), as(api.Close, buys(3, 1, 100)))
		}
		was := looks(t, e)
		for range 3 {
			same(t, e, was)
		}
	}
}
