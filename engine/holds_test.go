package engine_test

import (
	"testing"

	"openbell/api"
	"openbell/engine"
)

// watch looks at a market by its face alone, call by call, and checks what 9.5 says of it.
type watch struct {
	t      *testing.T
	c      engine.Config
	e      *engine.Engine
	was    view
	had    map[int]api.Order // all that were taken, as they came
	traded map[int]int       // how many lots of each
	began  int               // the tick at which the last volatility auction began
	seen   map[string]int
}

func watched(t *testing.T, c engine.Config, seen map[string]int) *watch {
	e := starts(t, c)
	return &watch{t: t, c: c, e: e, was: looks(t, e), had: map[int]api.Order{}, traded: map[int]int{}, seen: seen}
}

// order lets an order come, and looks at what it trades.
func (x *watch) order(o api.Order) {
	x.t.Helper()
	l, err := x.e.Order(o)
	if err == nil {
		x.had[o.Id] = o
	}
	if len(l) > 0 && x.was.phase != api.Trading {
		x.t.Fatalf("Order(%+v) in phase %d: %v", o, x.was.phase, l)
	}
	last := x.was.last
	for _, f := range l {
		// No trade of Trading is outside of both bands, as they were ahead of it.
		if !near(f.Price, x.was.anchor, x.c.Static) || !near(f.Price, last, x.c.Dynamic) {
			x.t.Fatalf("%+v: %v: %v is too far from %d or %d", x.c, l, f, x.was.anchor, last)
		}
		last = f.Price
		if f.Buyer != o.Id && f.Seller != o.Id {
			x.t.Fatalf("Order(%+v): %v is of others", o, f)
		}
		x.trade(f)
		x.seen["trades"]++
	}
	x.after()
}

// trade notes a trade: both would trade at its price, and no more than they had.
func (x *watch) trade(f api.Fill) {
	x.t.Helper()
	for _, id := range []int{f.Buyer, f.Seller} {
		o, taken := x.had[id]
		x.traded[id] += f.Qty
		if !taken || f.Qty < 1 || x.traded[id] > o.Qty {
			x.t.Fatalf("%v: %d lots in all of %+v", f, x.traded[id], o)
		}
		if (id == f.Buyer) != (o.Side == api.Buy) || !would(o, f.Price) {
			x.t.Fatalf("%v: not for %+v", f, o)
		}
	}
}

// would says whether an order may trade at a price.
func would(o api.Order, price int) bool {
	return o.Kind == api.Market || o.Side == api.Buy && o.Price >= price || o.Side == api.Sell && o.Price <= price
}

// tick lets a tick go by, and looks at what an auction trades.
func (x *watch) tick() {
	x.t.Helper()
	l, err := x.e.Tick()
	if (err != nil) != (x.was.phase == api.Ended) {
		x.t.Fatalf("Tick in phase %d: %v", x.was.phase, err)
	}
	now := map[int]int{}
	for _, f := range l {
		if p := x.was.phase; p != api.Opening && p != api.Volatility && p != api.Closing || f.Price != l[0].Price {
			x.t.Fatalf("a tick in phase %d: %v", p, l)
		}
		x.trade(f)
		now[f.Buyer] += f.Qty
		now[f.Seller] += f.Qty
		x.seen["auctions"]++
	}
	// At an auction's price nobody who would be better served is left, while another one trades.
	for i, o := range x.was.lie {
		if i > 0 && x.was.lie[i-1].Side == o.Side && now[o.Id] > 0 && now[x.was.lie[i-1].Id] < x.was.lie[i-1].Qty {
			x.t.Fatalf("%v: %+v trades, and %+v is passed by", l, o, x.was.lie[i-1])
		}
	}
	x.after()
}

// after looks at a market behind a call.
func (x *watch) after() {
	x.t.Helper()
	now := looks(x.t, x.e)
	for _, o := range now.lie {
		if had := x.had[o.Id]; o.Qty != had.Qty-x.traded[o.Id] || o.Qty < 1 {
			x.t.Fatalf("%+v lies: it had %d, and traded %d", o, had.Qty, x.traded[o.Id])
		}
		if now.phase == api.Trading && o.Kind != api.Limit {
			x.t.Fatalf("in Trading %+v lies", o)
		}
	}
	for _, o := range now.wait {
		if o.Kind != api.Close || x.traded[o.Id] != 0 || now.phase == api.Closing {
			x.t.Fatalf("in phase %d %+v waits", now.phase, o)
		}
	}
	if n := len(now.lie) + len(now.wait); n > api.MaxBook || now.phase == api.Ended && n > 0 {
		x.t.Fatalf("in phase %d: %v lie, and %v wait", now.phase, now.lie, now.wait)
	}
	if now.phase == api.Trading {
		x.apart()
	}
	if now.phase == api.Volatility {
		x.inTime(now.now)
	}
	x.was = now
}

// apart checks that in Trading nobody lies who could trade.
func (x *watch) apart() {
	x.t.Helper()
	buy, _ := x.e.Side(api.Buy)
	sell, _ := x.e.Side(api.Sell)
	if len(buy) > 0 && len(sell) > 0 {
		x.seen["apart"]++
		if buy[0].Price >= sell[0].Price {
			x.t.Fatalf("in Trading %+v and %+v lie", buy[0], sell[0])
		}
	}
}

// inTime checks that a volatility auction is over within Ticks times (1 + More) ticks.
func (x *watch) inTime(now int) {
	x.t.Helper()
	if x.was.phase != api.Volatility {
		x.began = now
		x.seen["gathered"]++
	}
	if long := now - x.began; long >= x.c.Ticks*(1+x.c.More) {
		x.t.Fatalf("a volatility auction goes on behind %d ticks: %d times %d were to be enough", long, x.c.Ticks, 1+x.c.More)
	} else if long >= x.c.Ticks {
		x.seen["longer"]++
	}
}

// row lets a long row of orders, cancels and ticks go by; Halt and Open among them, if halts.
func (x *watch) row(d *die, steps, ticks int, halts bool) {
	x.t.Helper()
	for id := 1; id <= steps; id++ {
		switch n := d.n(2 * ticks); {
		case n < 2:
			x.tick()
		case n == 2:
			x.e.Cancel(1 + d.n(id))
			x.after()
		case n == 3 && halts:
			if d.n(5) == 0 {
				x.e.Halt()
			} else {
				x.e.Open()
			}
			x.after()
		default:
			x.order(d.order(id))
		}
	}
}

// 9.5: what holds, in long rows; the day is long, so that much is traded.
func TestWhatHolds(t *testing.T) {
	d := die(95)
	for _, halts := range []bool{false, true} {
		seen := map[string]int{}
		for range 40 {
			c := d.config()
			c.Table = rows(0, api.PreOpen, 1+d.n(4), api.Opening, 6+d.n(4), api.Trading, 200+d.n(100), api.Closing, 310, api.Ended)
			watched(t, c, seen).row(&d, 2000, 2+d.n(8), halts)
		}
		for _, want := range []string{"trades", "auctions", "apart", "gathered", "longer"} {
			if seen[want] < 100 {
				t.Errorf("%q was to be seen more often: %v", want, seen)
			}
		}
	}
}

// 9.5: what holds, in many short days of all kinds.
func TestWhatHoldsShortly(t *testing.T) {
	d := die(59)
	seen := map[string]int{}
	for i := range 300 {
		watched(t, d.config(), seen).row(&d, 150, 2+d.n(10), i%2 == 0)
	}
}

// 9.5: a day ends, whatever comes: at the table's Ended, and then nothing lies, nor waits, nor is done any more.
func TestADayEnds(t *testing.T) {
	d := die(77)
	for range 60 {
		c := d.config()
		at := 20 + d.n(20)
		c.Table = rows(0, api.PreOpen, 1+d.n(4), api.Opening, 6+d.n(4), api.Trading, at, api.Ended)
		if d.n(2) == 0 {
			c.Table = append(c.Table[:3], rows(at-1-d.n(5), api.Closing, at, api.Ended)...)
		}
		x := watched(t, c, map[string]int{})
		for id := 1; x.was.now < at; {
			x.row(&d, 1, 2, true)
			for range d.n(6) {
				x.order(d.order(id))
				id++
			}
			if (x.was.phase == api.Ended) != (x.was.now == at) {
				t.Fatalf("%+v: phase %d at %d", c, x.was.phase, x.was.now)
			}
		}
		lie(t, x.e)
		wait(t, x.e)
		cancels(t, x.e, 1, api.ErrState)
		halts(t, x.e, api.ErrState)
		goesOn(t, x.e, api.ErrState)
		for _, kind := range kinds {
			refuses(t, x.e, as(kind, buys(5000, 1, 100)), api.ErrState)
		}
		x.tick()
	}
}
