package engine_test

import (
	"slices"
	"testing"

	"openbell/api"
	"openbell/engine"
)

// 9.3: a day by its table, tick by tick.
func TestTickThroughTheDay(t *testing.T) {
	e := starts(t, day())
	for now := 1; now <= ends; now++ {
		until(t, e, now)
		switch {
		case now < opens:
			phase(t, e, api.PreOpen)
		case now < trades:
			phase(t, e, api.Opening)
		case now < closes:
			phase(t, e, api.Trading)
		case now < ends:
			phase(t, e, api.Closing)
		default:
			phase(t, e, api.Ended)
		}
	}
}

// 9.3: ErrState, when the day has Ended: it is no later then.
func TestTickEnded(t *testing.T) {
	e := in(t, api.Ended)
	for range 3 {
		was := looks(t, e)
		l, err := e.Tick()
		is(t, "Tick", err, api.ErrState)
		if len(l) != 0 {
			t.Fatalf("Tick: %v beside an error", l)
		}
		same(t, e, was)
	}
	if e.Now() != ends {
		t.Fatalf("the day ended at %d, want %d", e.Now(), ends)
	}
}

// 9.3: a table that ends with another phase goes on in it.
func TestTickWithoutEnd(t *testing.T) {
	for n := 1; n < 5; n++ {
		c := day()
		c.Table = c.Table[:n]
		e := starts(t, c)
		last := c.Table[n-1]
		until(t, e, last.At+500)
		phase(t, e, last.Phase)
	}
}

// 9.3: a tick by which the table's phase does not change does nothing, with orders that lie, could trade, and wait.
func TestTickWithoutChange(t *testing.T) {
	for _, p := range []int{api.PreOpen, api.Opening, api.Closing} {
		c := day()
		c.Table = rows(0, api.PreOpen, 10, api.Opening, 20, api.Trading, 30, api.Closing, 40, api.Ended)
		e := starts(t, c)
		for e.Phase() != p {
			until(t, e, e.Now()+1)
		}
		all(t, e, buys(1, 3, 105), sells(2, 3, 95), as(api.Auction, buys(3, 1, 100)), as(api.Close, sells(4, 1, 100)))
		lies, waits, q := lying(t, e), e.Parked(), e.Quote()
		until(t, e, e.Now()+9)
		phase(t, e, p)
		lie(t, e, lies...)
		wait(t, e, waits...)
		quote(t, e, q.Price, q.Qty, q.Surplus)
		refs(t, e, 100, 100)
	}
	e := in(t, api.Trading)
	all(t, e, buys(1, 3, 99), sells(2, 3, 101), as(api.Close, sells(4, 1, 100)))
	until(t, e, closes-1)
	phase(t, e, api.Trading)
	lie(t, e, buys(1, 3, 99), sells(2, 3, 101))
	wait(t, e, as(api.Close, sells(4, 1, 100)))
}

// 9.3: to Opening: orders lie on, though they could trade.
func TestTickToOpening(t *testing.T) {
	e := starts(t, day())
	all(t, e, buys(1, 3, 105), as(api.Auction, sells(2, 3, 95)), as(api.Close, sells(3, 1, 100)))
	until(t, e, opens)
	phase(t, e, api.Opening)
	lie(t, e, buys(1, 3, 105), as(api.Auction, sells(2, 3, 95)))
	wait(t, e, as(api.Close, sells(3, 1, 100)))
}

// 9.3: to Trading it uncrosses: the trades at the Quote's price, both refs are that; who is not Limit goes, also with lots left, and who waits waits on.
func TestTickToTrading(t *testing.T) {
	e := in(t, api.Opening)
	all(t, e,
		buys(1, 4, 103), as(api.Auction, buys(2, 4, 104)), market(3, api.Buy, 2), buys(4, 2, 99),
		sells(5, 3, 101), as(api.Auction, sells(6, 4, 100)), as(api.Auction, sells(7, 9, 105)), sells(8, 1, 104),
		as(api.Close, sells(9, 1, 90)))
	quote(t, e, 103, 7, 3)
	until(t, e, trades, fill(3, 6, 103, 2), fill(2, 6, 103, 2), fill(2, 5, 103, 2), fill(1, 5, 103, 1))
	phase(t, e, api.Trading)
	refs(t, e, 103, 103)
	lie(t, e, buys(1, 3, 103), buys(4, 2, 99), sells(8, 1, 104))
	wait(t, e, as(api.Close, sells(9, 1, 90)))
	cancels(t, e, 7, api.ErrMissing)
}

// 9.3: an opening's price is not asked whether it is Calm, and the bands lie around it from then on.
func TestTickFixes(t *testing.T) {
	e := in(t, api.Opening)
	all(t, e, buys(1, 1, 150), sells(2, 1, 150))
	until(t, e, trades, fill(1, 2, 150, 1))
	phase(t, e, api.Trading)
	refs(t, e, 150, 150)
	takes(t, e, sells(3, 1, 157))
	takes(t, e, market(4, api.Buy, 1), fill(4, 3, 157, 1))
	refs(t, e, 150, 157)
	takes(t, e, buys(5, 1, 100))
	takes(t, e, market(6, api.Sell, 1))
	phase(t, e, api.Volatility)
}

// 9.3: to uncross without a Quote trades nothing, and leaves the refs; but who is not Limit goes.
func TestTickUncrossesNothing(t *testing.T) {
	e := in(t, api.Opening)
	all(t, e, buys(1, 4, 98), as(api.Auction, buys(2, 4, 99)), market(3, api.Buy, 2), as(api.Close, buys(4, 2, 99)))
	until(t, e, trades)
	phase(t, e, api.Trading)
	refs(t, e, 100, 100)
	lie(t, e, buys(1, 4, 98))
	wait(t, e, as(api.Close, buys(4, 2, 99)))

	e = in(t, api.Opening)
	all(t, e, as(api.Auction, buys(1, 1, 90)), as(api.Auction, sells(2, 1, 110)), sells(3, 1, 108))
	until(t, e, trades)
	lie(t, e, sells(3, 1, 108))
}

// 9.3: orders that name no price trade around Last.
func TestTickUncrossesMarketAlone(t *testing.T) {
	e := in(t, api.Opening)
	all(t, e, market(1, api.Buy, 4), market(2, api.Sell, 3), market(3, api.Sell, 3))
	until(t, e, trades, fill(1, 2, 100, 3), fill(1, 3, 100, 1))
	refs(t, e, 100, 100)
	lie(t, e)
}

// 9.3: to Closing all that wait lie, in their order, behind those of their price; nothing is traded.
func TestTickToClosing(t *testing.T) {
	e := in(t, api.PreOpen)
	early := as(api.Close, buys(9, 1, 99))
	takes(t, e, early)
	until(t, e, trades)
	second, third, fourth := as(api.Close, buys(8, 2, 99)), as(api.Close, sells(7, 3, 98)), as(api.Close, buys(6, 4, 105))
	all(t, e, second, buys(5, 5, 99), third, sells(4, 6, 101), fourth)
	until(t, e, closes-1)
	wait(t, e, early, second, third, fourth)
	until(t, e, closes)
	phase(t, e, api.Closing)
	lie(t, e, fourth, buys(5, 5, 99), early, second, third, sells(4, 6, 101))
	wait(t, e)
	refs(t, e, 100, 100)
	until(t, e, ends-1)
	lie(t, e, fourth, buys(5, 5, 99), early, second, third, sells(4, 6, 101))
	quote(t, e, 101, 4, -5)
}

// 9.3: the day's last tick in Closing: it uncrosses, and nothing is there any more.
func TestTickEndsClosing(t *testing.T) {
	e := in(t, api.Trading)
	all(t, e, buys(1, 4, 99), as(api.Close, sells(2, 2, 99)), sells(3, 1, 108))
	until(t, e, closes)
	all(t, e, market(4, api.Buy, 1), as(api.Auction, buys(5, 1, 90)), as(api.Close, buys(6, 1, 90)))
	until(t, e, ends, fill(4, 2, 99, 1), fill(1, 2, 99, 1))
	phase(t, e, api.Ended)
	refs(t, e, 99, 99)
	lie(t, e)
	wait(t, e)
	quote(t, e, 0, 0, 0)
}

// 9.3: the day's last tick in Closing without a Quote.
func TestTickEndsClosingQuietly(t *testing.T) {
	e := in(t, api.Closing)
	all(t, e, buys(1, 4, 99), sells(3, 1, 108))
	until(t, e, ends)
	phase(t, e, api.Ended)
	refs(t, e, 100, 100)
	lie(t, e)
}

// 9.3: the day's last tick in Trading, in Volatility and in Halt: nothing is traded, though orders could, and nothing is there any more.
func TestTickEndsAnother(t *testing.T) {
	c := day()
	c.Table = rows(0, api.PreOpen, opens, api.Opening, trades, api.Trading, ends, api.Ended)
	parked := as(api.Close, buys(4, 4, 99))
	for _, p := range []int{api.Trading, api.Volatility, api.Halt} {
		e := starts(t, c)
		until(t, e, ends-1)
		all(t, e, parked, sells(1, 2, 108))
		if p != api.Trading {
			takes(t, e, buys(2, 2, 108))
			phase(t, e, api.Volatility)
			lie(t, e, buys(2, 2, 108), sells(1, 2, 108))
			quote(t, e, 108, 2, 0)
		}
		if p == api.Halt {
			halts(t, e, api.OK)
		}
		phase(t, e, p)
		until(t, e, ends)
		phase(t, e, api.Ended)
		lie(t, e)
		wait(t, e)
		refs(t, e, 100, 100)
	}
}

// 9.3: the day's last tick in Halt behind Closing: it does not uncross.
func TestTickEndsHaltedClosing(t *testing.T) {
	e := in(t, api.Closing)
	all(t, e, buys(1, 4, 102), sells(2, 4, 102))
	halts(t, e, api.OK)
	until(t, e, ends)
	phase(t, e, api.Ended)
	refs(t, e, 100, 100)
	lie(t, e)
}

// 9.3: in Halt ticks go by and nothing else is done, whatever the table's phase is.
func TestTickInHalt(t *testing.T) {
	e := in(t, api.PreOpen)
	l := []api.Order{as(api.Auction, buys(1, 4, 102)), sells(2, 4, 98)}
	parked := as(api.Close, buys(3, 1, 100))
	all(t, e, append(l, parked)...)
	halts(t, e, api.OK)
	for now := 1; now < ends; now++ {
		until(t, e, now)
		phase(t, e, api.Halt)
		lie(t, e, l...)
		wait(t, e, parked)
		refs(t, e, 100, 100)
	}
	until(t, e, ends)
	phase(t, e, api.Ended)
	wait(t, e)
}

// far is a market of a day that is long enough, in a volatility auction that began at tick 10: one buys 4 lots and another one sells them, at a price.
func far(t *testing.T, c engine.Config, price int) *engine.Engine {
	t.Helper()
	c.Table = rows(0, api.PreOpen, opens, api.Opening, trades, api.Trading)
	e := starts(t, c)
	until(t, e, 10)
	all(t, e, sells(1, 4, price), buys(2, 4, price))
	phase(t, e, api.Volatility)
	quote(t, e, price, 4, 0)
	return e
}

// 9.3: a volatility auction lasts Ticks, and ends with its trades, if its price is Calm.
func TestVolatilityCalm(t *testing.T) {
	for _, price := range []int{90, 94, 106, 110} {
		for _, ticks := range []int{1, 2, 3, 50} {
			c := day()
			c.Ticks = ticks
			e := far(t, c, price)
			all(t, e, as(api.Auction, buys(3, 1, 80)), market(4, api.Sell, 1), buys(5, 1, 70), as(api.Close, buys(6, 1, price)))
			cancels(t, e, 4, api.OK)
			until(t, e, 10+ticks-1)
			phase(t, e, api.Volatility)
			until(t, e, 10+ticks, fill(2, 1, price, 4))
			phase(t, e, api.Trading)
			refs(t, e, price, price)
			lie(t, e, buys(5, 1, 70))
			wait(t, e, as(api.Close, buys(6, 1, price)))
		}
	}
}

// 9.3: Calm is asked of the static band, around Anchor: not of the dynamic one, around Last.
func TestVolatilityCalmByAnchor(t *testing.T) {
	c := day()
	c.Table = rows(0, api.PreOpen, opens, api.Opening, trades, api.Trading)
	e := starts(t, c)
	until(t, e, 10)
	all(t, e, sells(1, 1, 105), sells(2, 1, 110), buys(3, 5, 92))
	takes(t, e, market(4, api.Buy, 2), fill(4, 1, 105, 1), fill(4, 2, 110, 1))
	refs(t, e, 100, 110)
	takes(t, e, sells(5, 5, 92))
	phase(t, e, api.Volatility)
	quote(t, e, 92, 5, 0)
	until(t, e, 13, fill(3, 5, 92, 5))
	phase(t, e, api.Trading)
	refs(t, e, 92, 92)

	// 111 lies within half a tenth of Last, 110, and beyond a tenth of Anchor, 100.
	e = starts(t, c)
	until(t, e, 10)
	all(t, e, sells(1, 1, 105), sells(2, 1, 110), sells(3, 1, 111))
	takes(t, e, buys(4, 3, 111), fill(4, 1, 105, 1), fill(4, 2, 110, 1))
	quote(t, e, 111, 1, 0)
	until(t, e, 13)
	phase(t, e, api.Volatility)
}

// 9.3: a volatility auction of which nothing would be traded ends: trading goes on, and who is not Limit goes.
func TestVolatilityNothing(t *testing.T) {
	e := far(t, day(), 120)
	all(t, e, as(api.Auction, buys(3, 1, 80)), market(4, api.Buy, 1))
	cancels(t, e, 1, api.OK)
	quote(t, e, 0, 0, 0)
	until(t, e, 12)
	phase(t, e, api.Volatility)
	until(t, e, 13)
	phase(t, e, api.Trading)
	refs(t, e, 100, 100)
	lie(t, e, buys(2, 4, 120))
}

// 9.3: a Quote that is not Calm: the auction is made longer, More times, and then halts; nothing is traded by that.
func TestVolatilityNotCalm(t *testing.T) {
	for _, price := range []int{89, 111, 1, api.MaxPrice} {
		for _, more := range []int{0, 1, 2, 10} {
			c := day()
			c.More = more
			e := far(t, c, price)
			all(t, e, as(api.Auction, buys(3, 1, 1)), as(api.Close, buys(4, 1, 1)))
			was := lying(t, e)
			over := 10 + c.Ticks*(1+more)
			for now := 11; now < over; now++ {
				until(t, e, now)
				phase(t, e, api.Volatility)
				lie(t, e, was...)
			}
			until(t, e, over)
			phase(t, e, api.Halt)
			lie(t, e, was...)
			wait(t, e, as(api.Close, buys(4, 1, 1)))
			refs(t, e, 100, 100)
			until(t, e, over+2*c.Ticks)
			phase(t, e, api.Halt)
		}
	}
}

// 9.3: an auction that was made longer ends as any other, at the end of that time, not ahead of it.
func TestVolatilityLonger(t *testing.T) {
	e := far(t, day(), 120)
	until(t, e, 13)
	phase(t, e, api.Volatility)
	// From now on it is Calm: it ends when its time is over.
	all(t, e, sells(3, 9, 105))
	quote(t, e, 105, 4, -5)
	until(t, e, 15)
	phase(t, e, api.Volatility)
	until(t, e, 16, fill(2, 3, 105, 4))
	phase(t, e, api.Trading)
	refs(t, e, 105, 105)
	lie(t, e, sells(3, 5, 105), sells(1, 4, 120))

	// Or nothing is to be traded.
	e = far(t, day(), 120)
	until(t, e, 14)
	cancels(t, e, 2, api.OK)
	until(t, e, 15)
	phase(t, e, api.Volatility)
	until(t, e, 16)
	phase(t, e, api.Trading)
	lie(t, e, sells(1, 4, 120))
}

// 9.2 and 9.3: each volatility auction has its own time, and was never made longer at first.
func TestVolatilityAnew(t *testing.T) {
	e := far(t, day(), 120)
	until(t, e, 15)
	cancels(t, e, 2, api.OK)
	until(t, e, 18)
	phase(t, e, api.Trading)
	takes(t, e, buys(3, 1, 120))
	phase(t, e, api.Volatility)
	until(t, e, 21)
	phase(t, e, api.Volatility)
	until(t, e, 23)
	phase(t, e, api.Volatility)
	until(t, e, 24)
	phase(t, e, api.Halt)
	until(t, e, 30)
	goesOn(t, e, api.OK)
	until(t, e, 33)
	phase(t, e, api.Volatility)
	until(t, e, 36)
	phase(t, e, api.Halt)
}

// 9.3: the table's Closing comes ahead of a volatility auction's end, at its last tick, too: nothing is traded, and all that lie stay, those who are not Limit among them.
func TestVolatilityToClosing(t *testing.T) {
	for _, begins := range []int{closes - 1, closes - 2, closes - 3} {
		e := in(t, api.Trading)
		until(t, e, begins)
		all(t, e, sells(1, 4, 108), buys(2, 4, 108))
		phase(t, e, api.Volatility)
		all(t, e, market(3, api.Buy, 1), as(api.Auction, sells(4, 1, 109)), as(api.Close, sells(5, 1, 108)))
		until(t, e, closes)
		phase(t, e, api.Closing)
		lie(t, e, market(3, api.Buy, 1), buys(2, 4, 108), sells(1, 4, 108), as(api.Close, sells(5, 1, 108)), as(api.Auction, sells(4, 1, 109)))
		wait(t, e)
		until(t, e, closes+2)
		phase(t, e, api.Closing)
		until(t, e, ends, fill(3, 1, 108, 1), fill(2, 1, 108, 3), fill(2, 5, 108, 1))
	}
}

// 9.4: Halt and Open in each phase.
func TestHaltAndOpen(t *testing.T) {
	for _, p := range phases {
		e := in(t, p)
		now := e.Now()
		switch p {
		case api.Halt:
			halts(t, e, api.ErrState)
			goesOn(t, e, api.OK)
			phase(t, e, api.Volatility)
			goesOn(t, e, api.ErrState)
		case api.Ended:
			halts(t, e, api.ErrState)
			goesOn(t, e, api.ErrState)
		default:
			goesOn(t, e, api.ErrState)
			halts(t, e, api.OK)
			phase(t, e, api.Halt)
			halts(t, e, api.ErrState)
		}
		if e.Now() != now {
			t.Fatalf("from phase %d, at %d: it is %d", p, now, e.Now())
		}
	}
}

// 9.4: Halt leaves all that lie and wait where they are, and Open goes on with the table's phase: in PreOpen and Opening as it was.
func TestOpenAhead(t *testing.T) {
	for _, p := range []int{api.PreOpen, api.Opening} {
		e := in(t, p)
		all(t, e, buys(1, 1, 105), as(api.Auction, sells(2, 1, 95)), as(api.Close, buys(3, 1, 100)))
		was := looks(t, e)
		halts(t, e, api.OK)
		lie(t, e, buys(1, 1, 105), as(api.Auction, sells(2, 1, 95)))
		wait(t, e, as(api.Close, buys(3, 1, 100)))
		goesOn(t, e, api.OK)
		same(t, e, was)
	}
	// The table's phase is that of now, not that of the time of the Halt.
	e := in(t, api.PreOpen)
	all(t, e, buys(1, 1, 105), as(api.Auction, sells(2, 1, 95)))
	halts(t, e, api.OK)
	until(t, e, opens)
	goesOn(t, e, api.OK)
	phase(t, e, api.Opening)
	lie(t, e, buys(1, 1, 105), as(api.Auction, sells(2, 1, 95)))
	until(t, e, trades, fill(1, 2, 100, 1))
}

// 9.4: Open, when the table's phase is Trading, begins a volatility auction, from whichever phase it was halted: it lasts Ticks, and what lies meets at its end.
func TestOpenInTrading(t *testing.T) {
	for _, p := range []int{api.PreOpen, api.Opening, api.Trading, api.Volatility} {
		e := in(t, p)
		all(t, e, buys(1, 2, 104), as(api.Close, buys(2, 1, 100)))
		halts(t, e, api.OK)
		until(t, e, 10)
		phase(t, e, api.Halt)
		lie(t, e, buys(1, 2, 104))
		goesOn(t, e, api.OK)
		phase(t, e, api.Volatility)
		wait(t, e, as(api.Close, buys(2, 1, 100)))
		takes(t, e, as(api.Auction, sells(3, 5, 103)))
		until(t, e, 12)
		phase(t, e, api.Volatility)
		until(t, e, 13, fill(1, 3, 103, 2))
		phase(t, e, api.Trading)
		refs(t, e, 103, 103)
		lie(t, e)
	}
}

// 9.4: Open, when the table's phase is Closing: all that wait lie, in their order; once.
func TestOpenInClosing(t *testing.T) {
	for _, p := range []int{api.PreOpen, api.Opening, api.Trading, api.Volatility} {
		e := in(t, p)
		one, two, three := as(api.Close, sells(9, 1, 101)), as(api.Close, sells(8, 1, 101)), as(api.Close, buys(7, 1, 101))
		all(t, e, one, sells(2, 2, 101), two, three)
		halts(t, e, api.OK)
		until(t, e, closes+1)
		wait(t, e, one, two, three)
		lie(t, e, sells(2, 2, 101))
		cancels(t, e, 8, api.OK)
		goesOn(t, e, api.OK)
		phase(t, e, api.Closing)
		lie(t, e, three, sells(2, 2, 101), one)
		wait(t, e)
		halts(t, e, api.OK)
		goesOn(t, e, api.OK)
		phase(t, e, api.Closing)
		lie(t, e, three, sells(2, 2, 101), one)
		until(t, e, ends, fill(7, 2, 101, 1))
	}
}

// 9.3 and 9.4: a market that was halted in Closing and opened there uncrosses at the day's end.
func TestOpenClosingEnds(t *testing.T) {
	e := in(t, api.Closing)
	all(t, e, buys(1, 4, 102), sells(2, 4, 102))
	halts(t, e, api.OK)
	goesOn(t, e, api.OK)
	until(t, e, ends, fill(1, 2, 102, 4))
	refs(t, e, 102, 102)
}

// 9.3 and 9.4: one that was halted by a volatility auction, and opened: its orders lie still, the refs are as they were, and it may end well.
func TestOpenBehindVolatility(t *testing.T) {
	e := far(t, day(), 120)
	until(t, e, 16)
	phase(t, e, api.Halt)
	lie(t, e, buys(2, 4, 120), sells(1, 4, 120))
	refuses(t, e, sells(3, 1, 105), api.ErrState)
	cancels(t, e, 1, api.OK)
	goesOn(t, e, api.OK)
	phase(t, e, api.Volatility)
	takes(t, e, sells(3, 6, 108))
	until(t, e, 19, fill(2, 3, 108, 4))
	phase(t, e, api.Trading)
	lie(t, e, sells(3, 2, 108))
}

// 9.3: a tick's trades are its own: the next tick does not tell them again.
func TestTickTellsOnce(t *testing.T) {
	e := in(t, api.Opening)
	all(t, e, buys(1, 1, 100), sells(2, 1, 100))
	until(t, e, trades, fill(1, 2, 100, 1))
	l, err := e.Tick()
	is(t, "Tick", err, api.OK)
	if !slices.Equal(l, nil) {
		t.Fatalf("Tick: %v", l)
	}
}
