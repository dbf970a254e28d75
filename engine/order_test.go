package engine_test

import (
	"math"
	"slices"
	"testing"

	"openbell/api"
	"openbell/engine"
)

// wild are numbers that are no side, no kind, no price, no lots and no order's number.
var wild = []int{0, -1, -api.MaxPrice, 1 - 1<<32, math.MinInt, math.MinInt + 1}

// beyond are numbers that are too great for all but an order's number.
var beyond = []int{api.MaxPrice + 1, 1 << 32, 1<<32 + 1, 1<<32 + api.Market, math.MaxInt - 1, math.MaxInt}

// 9.2: ErrArg, in each phase.
func TestOrderArg(t *testing.T) {
	for _, p := range phases {
		e := in(t, p)
		for _, n := range slices.Concat([]int{3, 4, 5, 9}, wild, beyond) {
			for _, kind := range kinds {
				o := as(kind, buys(1, 1, 100))
				o.Side = n
				refuses(t, e, o, api.ErrArg)
			}
		}
		for _, n := range slices.Concat([]int{5, 9}, wild, beyond) {
			refuses(t, e, as(n, buys(1, 1, 100)), api.ErrArg)
			refuses(t, e, as(n, sells(1, 1, 100)), api.ErrArg)
		}
		for _, n := range wild {
			for _, kind := range kinds {
				refuses(t, e, as(kind, sells(n, 1, 100)), api.ErrArg)
			}
		}
	}
}

// 9.2: the greatest numbers that there are.
func TestOrderEdges(t *testing.T) {
	e := in(t, api.Opening)
	all(t, e, buys(1, 1, 1), buys(2, api.MaxQty, api.MaxPrice), sells(math.MaxInt, api.MaxQty, api.MaxPrice), sells(1<<32+1, 1, 1))
	lie(t, e, buys(2, api.MaxQty, api.MaxPrice), buys(1, 1, 1), sells(1<<32+1, 1, 1), sells(math.MaxInt, api.MaxQty, api.MaxPrice))
	cancels(t, e, math.MaxInt, api.OK)
	refuses(t, e, sells(math.MaxInt, 1, 1), api.ErrTwice)
}

// 9.2: ErrRange, of each kind in each phase; a Market order's Price is not asked about.
func TestOrderRange(t *testing.T) {
	for _, p := range phases {
		e := in(t, p)
		for _, kind := range kinds {
			for _, n := range slices.Concat(wild, beyond) {
				refuses(t, e, as(kind, buys(1, n, 100)), api.ErrRange)
				refuses(t, e, as(kind, sells(1, n, 100)), api.ErrRange)
				if kind != api.Market {
					refuses(t, e, as(kind, buys(1, 1, n)), api.ErrRange)
					refuses(t, e, as(kind, sells(1, 1, n)), api.ErrRange)
				}
			}
		}
	}
}

// 9.2: a Market order's Price is 1, whatever it was.
func TestOrderMarketPrice(t *testing.T) {
	for _, price := range slices.Concat([]int{1, 2, 100, api.MaxPrice}, wild, beyond) {
		for _, p := range []int{api.Opening, api.Volatility, api.Closing} {
			e := in(t, p)
			o := market(1, api.Sell, 5)
			o.Price = price
			takes(t, e, o)
			lie(t, e, market(1, api.Sell, 5))
		}
		e := in(t, api.Trading)
		all(t, e, sells(1, 2, 101), buys(2, 2, 99))
		o := market(3, api.Buy, 1)
		o.Price = price
		takes(t, e, o, fill(3, 1, 101, 1))
		o = market(4, api.Sell, 1)
		o.Price = price
		takes(t, e, o, fill(2, 4, 99, 1))
	}
}

// 9.2: each kind in each phase: whether it is taken, and where it is then: it lies (l), waits (w), goes (g), or may not come (-).
func TestOrderKinds(t *testing.T) {
	where := map[int]string{
		//              LMAC
		api.PreOpen:    "l-lw",
		api.Opening:    "lllw",
		api.Trading:    "lg-w",
		api.Volatility: "lllw",
		api.Closing:    "llll",
		api.Halt:       "----",
		api.Ended:      "----",
	}
	for _, p := range phases {
		for i, kind := range kinds {
			for _, side := range bothSides {
				e := in(t, p)
				o := api.Order{Id: 7, Side: side, Kind: kind, Price: 100, Qty: 3}
				if kind == api.Market {
					o.Price = 1
				}
				switch where[p][i] {
				case '-':
					refuses(t, e, o, api.ErrState)
					continue
				case 'l':
					takes(t, e, o)
					lie(t, e, o)
					wait(t, e)
				case 'w':
					takes(t, e, o)
					lie(t, e)
					wait(t, e, o)
				case 'g':
					takes(t, e, o)
					lie(t, e)
					wait(t, e)
				}
				phase(t, e, p)
				refuses(t, e, o, api.ErrTwice)
			}
		}
	}
}

// full is a market in Trading in which MaxBook orders lie, with the numbers from 1 on, who buy and sell by turns.
func full(t *testing.T) *engine.Engine {
	t.Helper()
	e := in(t, api.Trading)
	for id := 1; id <= api.MaxBook; id++ {
		if id%2 == 1 {
			takes(t, e, buys(id, 2, 99))
		} else {
			takes(t, e, sells(id, 2, 101))
		}
	}
	return e
}

// 9.2: of several errors the one that is told first.
func TestOrderFirstError(t *testing.T) {
	crowded, empty := full(t), in(t, api.Trading)
	takes(t, empty, buys(1, 1, 99))
	for which := 1; which < 32; which++ {
		o, e, want := buys(1000, 1, 99), empty, api.OK
		if which&16 != 0 {
			e, want = crowded, api.ErrFull
		}
		if which&8 != 0 {
			o.Id, want = 1, api.ErrTwice
		}
		if which&4 != 0 {
			o.Kind, want = api.Auction, api.ErrState
		}
		if which&2 != 0 {
			o.Qty, want = 0, api.ErrRange
		}
		if which&1 != 0 {
			o.Side, want = 3, api.ErrArg
		}
		refuses(t, e, o, want)
	}
	// The number and the kind are looked at ahead of all else, too.
	refuses(t, crowded, api.Order{Side: api.Buy, Kind: api.Auction}, api.ErrArg)
	refuses(t, crowded, api.Order{Id: 1, Side: api.Buy, Kind: 5}, api.ErrArg)
	refuses(t, crowded, as(api.Auction, buys(1, 1, 0)), api.ErrRange)
	ended := in(t, api.Ended)
	refuses(t, ended, buys(1, 0, 100), api.ErrRange)
	refuses(t, ended, buys(0, 0, 100), api.ErrArg)
	refuses(t, ended, buys(1, 1, 100), api.ErrState)
}

// 9.2: a number that was taken ahead is not taken again, wherever its order is, on whichever side and of whichever kind the new one is.
func TestOrderTwice(t *testing.T) {
	e := in(t, api.Opening)
	all(t, e, buys(1, 2, 100), sells(2, 3, 100), as(api.Auction, buys(3, 1, 90)), market(4, api.Sell, 1), as(api.Close, buys(5, 1, 90)), as(api.Close, buys(6, 1, 90)), buys(7, 1, 90))
	cancels(t, e, 6, api.OK)
	cancels(t, e, 7, api.OK)
	twice(t, e, 7)
	until(t, e, trades, fill(1, 4, 100, 1), fill(1, 2, 100, 1))
	lie(t, e, sells(2, 2, 100))
	twice(t, e, 7)
	takes(t, e, market(8, api.Sell, 5))
	takes(t, e, buys(9, 1, 100), fill(9, 2, 100, 1))
	twice(t, e, 9)
	halts(t, e, api.OK)
	refuses(t, e, buys(1, 1, 100), api.ErrState)
	goesOn(t, e, api.OK)
	twice(t, e, 9)
	until(t, e, closes)
	twice(t, e, 9)
}

// twice checks that the numbers from 1 to most are taken.
func twice(t *testing.T, e *engine.Engine, most int) {
	t.Helper()
	for id := 1; id <= most; id++ {
		for _, kind := range []int{api.Limit, api.Close} {
			refuses(t, e, as(kind, buys(id, 1, 50)), api.ErrTwice)
			refuses(t, e, as(kind, sells(id, 1, 150)), api.ErrTwice)
		}
	}
}

// 9.2 and P2: a number that was refused was not taken.
func TestOrderRefusedNumber(t *testing.T) {
	e := full(t)
	refuses(t, e, buys(500, 1, 99), api.ErrFull)
	refuses(t, e, buys(500, 1, 99), api.ErrFull)
	refuses(t, e, as(api.Auction, buys(501, 1, 99)), api.ErrState)
	refuses(t, e, buys(502, 0, 99), api.ErrRange)
	refuses(t, e, as(9, buys(503, 1, 99)), api.ErrArg)
	for id := 1; id <= 7; id += 2 {
		cancels(t, e, id, api.OK)
	}
	refuses(t, e, buys(1, 1, 99), api.ErrTwice)
	all(t, e, buys(500, 1, 99), buys(501, 1, 99), buys(502, 1, 99), buys(503, 1, 99))
	refuses(t, e, buys(500, 1, 99), api.ErrTwice)
	refuses(t, e, buys(504, 1, 99), api.ErrFull)
}

// 9.2: MaxBook orders lie and wait together; there is no room then for an order of any kind, not even for one that would trade, or go.
func TestOrderFull(t *testing.T) {
	for _, waiting := range []int{0, 1, 40, api.MaxBook - 1, api.MaxBook} {
		e := in(t, api.Trading)
		for id := 1; id <= api.MaxBook; id++ {
			o := sells(id, 2, 101)
			if id <= waiting {
				o.Kind = api.Close
			}
			takes(t, e, o)
		}
		refuses(t, e, buys(200, 1, 101), api.ErrFull)
		refuses(t, e, buys(200, 1, 99), api.ErrFull)
		refuses(t, e, market(200, api.Buy, 1), api.ErrFull)
		refuses(t, e, as(api.Close, buys(200, 1, 99)), api.ErrFull)
		if n := len(e.Parked()); n != waiting {
			t.Fatalf("%d wait, want %d", n, waiting)
		}
		// Who goes makes room, whether it waited or lay.
		for i, id := range []int{1, api.MaxBook} {
			cancels(t, e, id, api.OK)
			takes(t, e, as(api.Close, buys(200+i, 1, 99)))
			refuses(t, e, as(api.Close, buys(300+i, 1, 99)), api.ErrFull)
		}
		cancels(t, e, 200, api.OK)
		takes(t, e, buys(400, 1, 99))
		refuses(t, e, buys(401, 1, 99), api.ErrFull)
		// All of them lie in Closing, and nobody more.
		until(t, e, closes)
		if n := len(lying(t, e)); n != api.MaxBook {
			t.Fatalf("%d lie in Closing, want %d", n, api.MaxBook)
		}
		wait(t, e)
		for _, kind := range kinds {
			refuses(t, e, as(kind, buys(402, 1, 99)), api.ErrFull)
		}
	}
}

// 9.2: who trades makes room, and has none left that would lie.
func TestOrderMakesRoom(t *testing.T) {
	e := full(t)
	cancels(t, e, 1, api.OK)
	takes(t, e, buys(200, 5, 101), fill(200, 2, 101, 2), fill(200, 4, 101, 2), fill(200, 6, 101, 1))
	all(t, e, as(api.Close, buys(201, 1, 99)), as(api.Close, buys(202, 1, 99)), buys(203, 1, 99))
	refuses(t, e, as(api.Close, buys(204, 1, 99)), api.ErrFull)
}

// 9.2: a Close order waits, whatever lies, trades with nobody then, and is in the bands' way for nobody; in Closing it lies, behind those who waited.
func TestOrderClose(t *testing.T) {
	waits := as(api.Close, buys(10, 2, 105))
	for _, p := range []int{api.PreOpen, api.Opening, api.Trading, api.Volatility} {
		e := in(t, p)
		all(t, e, sells(1, 2, 101), waits)
		lie(t, e, sells(1, 2, 101))
		wait(t, e, waits)
		refs(t, e, 100, 100)
		phase(t, e, p)
		until(t, e, closes)
		late := as(api.Close, buys(11, 2, 105))
		takes(t, e, late)
		lie(t, e, waits, late, sells(1, 2, 101))
		wait(t, e)
		until(t, e, ends, fill(10, 1, 105, 2))
	}
}

// 9.2: in an auction orders lie, though they could trade.
func TestOrderLiesInAuctions(t *testing.T) {
	for _, p := range []int{api.PreOpen, api.Opening, api.Volatility, api.Closing} {
		e := in(t, p)
		all(t, e, buys(1, 2, 105), sells(2, 2, 95), as(api.Auction, sells(3, 2, 200)), as(api.Auction, buys(4, 2, 300)))
		lie(t, e, as(api.Auction, buys(4, 2, 300)), buys(1, 2, 105), sells(2, 2, 95), as(api.Auction, sells(3, 2, 200)))
		phase(t, e, p)
		refs(t, e, 100, 100)
	}
}

// 9.2: in Trading one trades with those that lie, at their prices, the best first, the eldest of one price first; what is left of it lies.
func TestOrderMeets(t *testing.T) {
	e := in(t, api.Trading)
	all(t, e, sells(1, 2, 102), sells(2, 3, 101), sells(3, 4, 101), sells(4, 5, 103))
	takes(t, e, buys(5, 4, 101), fill(5, 2, 101, 3), fill(5, 3, 101, 1))
	lie(t, e, sells(3, 3, 101), sells(1, 2, 102), sells(4, 5, 103))
	refs(t, e, 100, 101)
	takes(t, e, buys(6, 9, 102), fill(6, 3, 101, 3), fill(6, 1, 102, 2))
	lie(t, e, buys(6, 4, 102), sells(4, 5, 103))
	refs(t, e, 100, 102)
	takes(t, e, sells(7, 1, 99), fill(6, 7, 102, 1))
	takes(t, e, sells(8, 9, 103))
	lie(t, e, buys(6, 3, 102), sells(4, 5, 103), sells(8, 9, 103))
	phase(t, e, api.Trading)
}

// 9.2: what is left of a Market order goes; it trades at any price that the bands allow.
func TestOrderMarketInTrading(t *testing.T) {
	e := in(t, api.Trading)
	takes(t, e, market(1, api.Buy, 5))
	lie(t, e)
	all(t, e, sells(2, 5, 101), sells(3, 1, 104))
	takes(t, e, market(4, api.Buy, 2), fill(4, 2, 101, 2))
	takes(t, e, market(5, api.Buy, 9), fill(5, 2, 101, 3), fill(5, 3, 104, 1))
	lie(t, e)
	refs(t, e, 100, 104)
	takes(t, e, buys(6, 1, 100))
	takes(t, e, market(7, api.Sell, 1), fill(6, 7, 100, 1))
	lie(t, e)
	phase(t, e, api.Trading)
	cancels(t, e, 5, api.ErrMissing)
}

// 9.2: one that is stopped at the first trade, of each kind that trades and on both sides: a volatility auction begins, and what is left of it lies, but of a Market order.
func TestOrderStoppedAtFirst(t *testing.T) {
	for _, c := range []struct{ lies, comes api.Order }{
		{sells(1, 3, 106), buys(2, 2, 107)},
		{sells(1, 3, 106), market(2, api.Buy, 2)},
		{sells(1, 3, 111), buys(2, 2, 111)},
		{buys(1, 3, 94), sells(2, 5, 93)},
		{buys(1, 3, 94), market(2, api.Sell, 5)},
		{buys(1, 3, 89), sells(2, 5, 89)},
	} {
		e := in(t, api.Trading)
		all(t, e, c.lies, c.comes)
		phase(t, e, api.Volatility)
		refs(t, e, 100, 100)
		want := []api.Order{c.lies}
		if c.comes.Kind == api.Limit {
			want = append(want, c.comes)
		}
		if c.lies.Side == api.Sell && len(want) == 2 {
			want[0], want[1] = want[1], want[0]
		}
		lie(t, e, want...)
		wait(t, e)
	}
}

// 9.2: a price at a band's edge is allowed, one beyond it is not; by the static band as by the dynamic one.
func TestOrderBands(t *testing.T) {
	for _, c := range []struct{ static, dynamic, low, high int }{
		{1000, 500, 95, 105},
		{500, 1000, 95, 105},
		{0, 1000, 100, 100},
		{1000, 0, 100, 100},
		{api.MaxBand, api.MaxBand, 1, 200},
	} {
		for price := max(1, c.low-2); price <= c.high+2; price++ {
			for _, side := range bothSides {
				x := day()
				x.Static, x.Dynamic = c.static, c.dynamic
				e := starts(t, x)
				until(t, e, trades)
				takes(t, e, api.Order{Id: 1, Side: side, Kind: api.Limit, Price: price, Qty: 1})
				phase(t, e, api.Trading)
				met, err := e.Order(market(2, api.Buy+api.Sell-side, 1))
				is(t, "Order", err, api.OK)
				may := price >= c.low && price <= c.high
				if may != (len(met) == 1) || may != (e.Phase() == api.Trading) {
					t.Fatalf("%+v at %d: %v, phase %d", c, price, met, e.Phase())
				}
			}
		}
	}
}

// 9.2: the bands are as they are behind each trade: Last is its price, so that one goes farther than it could at first, and is stopped at a later one.
func TestOrderBandsBehindTrades(t *testing.T) {
	e := in(t, api.Trading)
	all(t, e, sells(1, 1, 104), sells(2, 1, 109), sells(3, 1, 110), sells(4, 1, 111), buys(5, 1, 103))
	takes(t, e, buys(6, 9, 120), fill(6, 1, 104, 1), fill(6, 2, 109, 1), fill(6, 3, 110, 1))
	phase(t, e, api.Volatility)
	refs(t, e, 100, 110)
	lie(t, e, buys(6, 6, 120), buys(5, 1, 103), sells(4, 1, 111))

	// From 109 on 103 is too far, though it lies in the static band, and was near enough to 100.
	e = in(t, api.Trading)
	all(t, e, sells(1, 1, 104), sells(2, 1, 109), buys(3, 1, 103))
	takes(t, e, market(4, api.Buy, 2), fill(4, 1, 104, 1), fill(4, 2, 109, 1))
	takes(t, e, market(5, api.Sell, 1))
	phase(t, e, api.Volatility)
	lie(t, e, buys(3, 1, 103))

	// Without the first trade 109 is too far.
	e = in(t, api.Trading)
	all(t, e, sells(2, 1, 109), buys(4, 2, 109))
	phase(t, e, api.Volatility)
}

// 9.2: a Market order that is stopped at a later trade: its trades are told, and the lots that are left go.
func TestOrderMarketStopped(t *testing.T) {
	e := in(t, api.Trading)
	all(t, e, buys(1, 2, 97), buys(2, 2, 96), buys(3, 2, 89), as(api.Close, sells(4, 1, 90)))
	takes(t, e, market(5, api.Sell, 5), fill(1, 5, 97, 2), fill(2, 5, 96, 2))
	phase(t, e, api.Volatility)
	refs(t, e, 100, 96)
	lie(t, e, buys(3, 2, 89))
	wait(t, e, as(api.Close, sells(4, 1, 90)))
	refuses(t, e, market(5, api.Sell, 1), api.ErrTwice)
}

// 9.2: one that has no lots left is not stopped by what lies behind those that it met.
func TestOrderFilledIsNotStopped(t *testing.T) {
	e := in(t, api.Trading)
	all(t, e, sells(1, 2, 101), sells(2, 2, 150))
	takes(t, e, buys(3, 2, 150), fill(3, 1, 101, 2))
	phase(t, e, api.Trading)
	lie(t, e, sells(2, 2, 150))
	// Nor is one whose price does not go so far.
	takes(t, e, buys(4, 2, 149))
	phase(t, e, api.Trading)
	lie(t, e, buys(4, 2, 149), sells(2, 2, 150))
}

// 9.2: Cancel of one that waits, of one that lies, and of none, in each phase.
func TestCancel(t *testing.T) {
	for _, p := range phases {
		e := in(t, p)
		want := api.ErrMissing
		if p == api.Ended {
			want = api.ErrState
		}
		for _, id := range slices.Concat([]int{1, 2}, wild, beyond) {
			cancels(t, e, id, want)
		}
	}
	for _, p := range []int{api.PreOpen, api.Opening, api.Trading, api.Volatility} {
		for _, halted := range []bool{false, true} {
			e := in(t, p)
			one, two, three := as(api.Close, sells(3, 1, 101)), as(api.Close, buys(4, 1, 99)), as(api.Close, sells(5, 1, 101))
			all(t, e, buys(1, 1, 99), sells(2, 1, 101), one, two, three, buys(6, 1, 99))
			if halted {
				halts(t, e, api.OK)
			}
			cancels(t, e, 4, api.OK)
			wait(t, e, one, three)
			cancels(t, e, 1, api.OK)
			lie(t, e, buys(6, 1, 99), sells(2, 1, 101))
			for _, gone := range []int{1, 4, 7, 0, -1} {
				cancels(t, e, gone, api.ErrMissing)
			}
			cancels(t, e, 5, api.OK)
			cancels(t, e, 3, api.OK)
			wait(t, e)
			cancels(t, e, 2, api.OK)
			cancels(t, e, 6, api.OK)
			lie(t, e)
		}
	}
}

// 9.2: Cancel in Closing, of one that waited and of one that came there; nothing is there any more when the day has Ended.
func TestCancelInClosing(t *testing.T) {
	e := in(t, api.Trading)
	all(t, e, buys(1, 1, 99), as(api.Close, buys(2, 1, 99)), as(api.Close, buys(3, 1, 99)))
	until(t, e, closes)
	all(t, e, as(api.Close, sells(4, 1, 105)), market(5, api.Sell, 1))
	for _, id := range []int{2, 4, 5} {
		cancels(t, e, id, api.OK)
		cancels(t, e, id, api.ErrMissing)
	}
	lie(t, e, buys(1, 1, 99), as(api.Close, buys(3, 1, 99)))
	until(t, e, ends)
	for _, id := range []int{1, 2, 3, 4, 5, 6} {
		cancels(t, e, id, api.ErrState)
	}
}

// 9.2: who traded all that it had is there no more; who has lots left may be cancelled.
func TestCancelTraded(t *testing.T) {
	e := in(t, api.Trading)
	all(t, e, sells(1, 2, 101), sells(2, 2, 101))
	takes(t, e, buys(3, 3, 101), fill(3, 1, 101, 2), fill(3, 2, 101, 1))
	cancels(t, e, 1, api.ErrMissing)
	cancels(t, e, 3, api.ErrMissing)
	cancels(t, e, 2, api.OK)
	lie(t, e)
}

// 9.2: the document's example: one sells 5 at 101, another one buys 2 at any price.
func TestExample(t *testing.T) {
	e := in(t, api.Trading)
	takes(t, e, sells(1, 5, 101))
	takes(t, e, market(2, api.Buy, 2), fill(2, 1, 101, 2))
	lie(t, e, sells(1, 3, 101))
}
