package cross_test

import (
	"fmt"
	"math"
	"slices"
	"testing"

	"openbell/api"
	"openbell/book"
	"openbell/cross"
)

// met is what a Meets told, and what it asked and said meanwhile, one by one.
type met struct {
	fills   []api.Fill
	left    api.Order
	stopped bool
	said    []string
}

// meet lets an order meet a book, where the prices from low to high are allowed.
func meet(b *book.Book, o api.Order, low, high int) met {
	var m met
	allows := func(price int) bool {
		m.said = append(m.said, fmt.Sprint("may ", price))
		return low <= price && price <= high
	}
	trades := func(price int) { m.said = append(m.said, fmt.Sprint("was ", price)) }
	m.fills, m.left, m.stopped = cross.Meets(b, o, allows, trades)
	return m
}

// meets checks what comes of an order, where the prices from low to high are allowed: the trades, the lots that are left, where it was stopped (0: nowhere), and that allows is asked ahead of each trade, and trades told behind it.
func meets(t *testing.T, b *book.Book, o api.Order, low, high, left, stop int, want ...api.Fill) {
	t.Helper()
	m := meet(b, o, low, high)
	rest := o
	rest.Qty = left
	if !slices.Equal(m.fills, want) || m.left != rest || m.stopped != (stop != 0) {
		t.Fatalf("%+v, allowed from %d to %d: %v, %+v, %v; want %v, %+v, %v", o, low, high, m.fills, m.left, m.stopped, want, rest, stop != 0)
	}
	var said []string
	for _, f := range want {
		said = append(said, fmt.Sprint("may ", f.Price), fmt.Sprint("was ", f.Price))
	}
	if stop != 0 {
		said = append(said, fmt.Sprint("may ", stop))
	}
	if !slices.Equal(m.said, said) {
		t.Fatalf("%+v, allowed from %d to %d: asked and told %v, want %v", o, low, high, m.said, said)
	}
}

// sellers and buyers lie on one side each, not in the order of their prices.
var (
	sellers = []api.Order{sells(1, 4, 103), sells(2, 3, 101), sells(3, 2, 101), sells(4, 5, 102)}
	buyers  = []api.Order{buys(1, 4, 97), buys(2, 3, 99), buys(3, 2, 99), buys(4, 5, 98)}
)

// comes is an order of Id 9 that is not among those that lie.
func comes(side, kind, price, qty int) api.Order {
	return api.Order{Id: 9, Side: side, Kind: kind, Price: price, Qty: qty}
}

// 8.2: o buys: as far as its price goes, at the prices of those that lie; its own price is still one.
func TestMeetsBuy(t *testing.T) {
	all := []api.Fill{fill(9, 2, 101, 3), fill(9, 3, 101, 2), fill(9, 4, 102, 5), fill(9, 1, 103, 4)}
	for _, kind := range limits {
		for _, c := range []struct{ price, trades, left int }{
			{math.MinInt, 0, 20}, {-101, 0, 20}, {0, 0, 20}, {100, 0, 20}, {101, 2, 15}, {102, 3, 10}, {103, 4, 6}, {104, 4, 6}, {math.MaxInt, 4, 6},
		} {
			b := with(t, sellers...)
			meets(t, b, comes(api.Buy, kind, c.price, 20), 1, 200, c.left, 0, all[:c.trades]...)
			lie(t, b, []api.Order{sells(2, 3, 101), sells(3, 2, 101), sells(4, 5, 102), sells(1, 4, 103)}[c.trades:]...)
		}
	}
}

// 8.2: o sells, likewise.
func TestMeetsSell(t *testing.T) {
	all := []api.Fill{fill(2, 9, 99, 3), fill(3, 9, 99, 2), fill(4, 9, 98, 5), fill(1, 9, 97, 4)}
	for _, kind := range limits {
		for _, c := range []struct{ price, trades, left int }{
			{math.MaxInt, 0, 20}, {api.MaxPrice, 0, 20}, {100, 0, 20}, {99, 2, 15}, {98, 3, 10}, {97, 4, 6}, {96, 4, 6}, {0, 4, 6}, {-5, 4, 6}, {math.MinInt, 4, 6},
		} {
			b := with(t, buyers...)
			meets(t, b, comes(api.Sell, kind, c.price, 20), 1, 200, c.left, 0, all[:c.trades]...)
			lie(t, b, []api.Order{buys(2, 3, 99), buys(3, 2, 99), buys(4, 5, 98), buys(1, 4, 97)}[c.trades:]...)
		}
	}
}

// 8.2: no price ends a Market order, whatever Price it names; and it is told with that.
func TestMeetsMarket(t *testing.T) {
	for _, price := range []int{math.MinInt, -1, 0, 1, 98, 102, api.MaxPrice, math.MaxInt} {
		b := with(t, sellers...)
		meets(t, b, comes(api.Buy, api.Market, price, 14), 1, 200, 0, 0, fill(9, 2, 101, 3), fill(9, 3, 101, 2), fill(9, 4, 102, 5), fill(9, 1, 103, 4))
		lie(t, b)
		b = with(t, buyers...)
		meets(t, b, comes(api.Sell, api.Market, price, 15), 1, 200, 1, 0, fill(2, 9, 99, 3), fill(3, 9, 99, 2), fill(4, 9, 98, 5), fill(1, 9, 97, 4))
		lie(t, b)
	}
	// Example 9 of the document.
	b := with(t, sells(1, 5, 101))
	meets(t, b, comes(api.Buy, api.Market, 0, 2), 1, 200, 0, 0, fill(9, 1, 101, 2))
	lie(t, b, sells(1, 3, 101))
}

// 8.2: a Market order that lies is passed by, by a Market order too: nobody is asked of its price, nor does that end o.
func TestMeetsPassesMarketBy(t *testing.T) {
	for _, kind := range []int{api.Limit, api.Market} {
		b := with(t, append(sellers, market(5, api.Sell, 7), market(6, api.Sell, 1))...)
		meets(t, b, comes(api.Buy, kind, 101, 4), 101, 101, 0, 0, fill(9, 2, 101, 3), fill(9, 3, 101, 1))
		lie(t, b, market(5, api.Sell, 7), market(6, api.Sell, 1), sells(3, 1, 101), sells(4, 5, 102), sells(1, 4, 103))

		// A Market order's price, 1, is below what o sells at.
		b = with(t, append(buyers, market(5, api.Buy, 7), market(6, api.Buy, 1))...)
		meets(t, b, comes(api.Sell, kind, 99, 4), 99, 99, 0, 0, fill(2, 9, 99, 3), fill(3, 9, 99, 1))
		lie(t, b, market(5, api.Buy, 7), market(6, api.Buy, 1), buys(3, 1, 99), buys(4, 5, 98), buys(1, 4, 97))

		for _, side := range bothSides {
			b = with(t, market(5, api.Buy, 7), market(6, api.Sell, 1))
			meets(t, b, comes(side, kind, 1, 4), 1, 200, 4, 0)
			lie(t, b, market(5, api.Buy, 7), market(6, api.Sell, 1))
		}
	}
}

// 8.2: where allows is false it ends, stopped: at the first one, and at a later one; what was traded ahead stays.
func TestMeetsStopped(t *testing.T) {
	for _, kind := range []int{api.Limit, api.Market} {
		o := comes(api.Buy, kind, 103, 12)
		b := with(t, sellers...)
		meets(t, b, o, 102, 200, 12, 101)
		lie(t, b, sells(2, 3, 101), sells(3, 2, 101), sells(4, 5, 102), sells(1, 4, 103))
		meets(t, b, o, 1, 101, 7, 102, fill(9, 2, 101, 3), fill(9, 3, 101, 2))
		lie(t, b, sells(4, 5, 102), sells(1, 4, 103))
		meets(t, b, o, 1, 102, 7, 103, fill(9, 4, 102, 5))
		lie(t, b, sells(1, 4, 103))

		o = comes(api.Sell, kind, 97, 12)
		b = with(t, buyers...)
		meets(t, b, o, 1, 98, 12, 99)
		meets(t, b, o, 98, 200, 2, 97, fill(2, 9, 99, 3), fill(3, 9, 99, 2), fill(4, 9, 98, 5))
		lie(t, b, buys(1, 4, 97))
	}
}

// 8.2: nobody is asked of a price that o does not go to, nor with no lots left: then it was not stopped, though the next price is not allowed.
func TestMeetsNotStopped(t *testing.T) {
	b := with(t, sellers...)
	meets(t, b, comes(api.Buy, api.Limit, 100, 9), 1, 100, 9, 0)
	meets(t, b, comes(api.Buy, api.Limit, 101, 9), 1, 101, 4, 0, fill(9, 2, 101, 3), fill(9, 3, 101, 2))
	meets(t, b, comes(api.Buy, api.Market, 1, 5), 1, 102, 0, 0, fill(9, 4, 102, 5))
	lie(t, b, sells(1, 4, 103))
}

// 8.2: allows may change its mind from one trade to the next: it is asked each time, though the price is the same.
func TestMeetsAsksEachTime(t *testing.T) {
	b := with(t, sells(1, 2, 101), sells(2, 2, 101), sells(3, 2, 101))
	told := 0
	f, left, stopped := cross.Meets(b, comes(api.Buy, api.Limit, 101, 6), func(int) bool { return told < 2 }, func(int) { told++ })
	if want := []api.Fill{fill(9, 1, 101, 2), fill(9, 2, 101, 2)}; !slices.Equal(f, want) || left.Qty != 2 || !stopped || told != 2 {
		t.Fatalf("%v, %v, %v, told %d times; want %v, 2 lots left, stopped, told twice", f, left, stopped, told, want)
	}
	lie(t, b, sells(3, 2, 101))
}

// 8.2: when allows is asked the other one is as it lay; when trades is told it is cut.
func TestMeetsCutsAheadOfTelling(t *testing.T) {
	b := with(t, sells(1, 2, 101), sells(2, 2, 102))
	var many []int
	note := func() {
		n := 0
		for _, o := range look(t, b) {
			n += o.Qty
		}
		many = append(many, n)
	}
	cross.Meets(b, comes(api.Buy, api.Limit, 102, 3), func(int) bool { note(); return true }, func(int) { note() })
	if want := []int{4, 2, 2, 1}; !slices.Equal(many, want) {
		t.Fatalf("lots that lay: %v, want %v", many, want)
	}
}

// 8.2: who has lots left keeps them in its place, and the next o meets it first.
func TestMeetsInItsPlace(t *testing.T) {
	b := with(t, sellers...)
	meets(t, b, comes(api.Buy, api.Limit, 101, 1), 1, 200, 0, 0, fill(9, 2, 101, 1))
	meets(t, b, comes(api.Buy, api.Limit, 101, 1), 1, 200, 0, 0, fill(9, 2, 101, 1))
	meets(t, b, comes(api.Buy, api.Limit, 101, 2), 1, 200, 0, 0, fill(9, 2, 101, 1), fill(9, 3, 101, 1))
	lie(t, b, sells(3, 1, 101), sells(4, 5, 102), sells(1, 4, 103))
}

// 8.2: o without lots meets nobody, and is told as it came.
func TestMeetsWithoutLots(t *testing.T) {
	for _, qty := range []int{0, -1, -4, -api.MaxQty, -1 << 32, 1 - 1<<32, math.MinInt} {
		for _, kind := range []int{api.Limit, api.Market} {
			b := with(t, sellers...)
			was := look(t, b)
			meets(t, b, comes(api.Buy, kind, 103, qty), 1, 200, qty, 0)
			meets(t, b, comes(api.Buy, kind, 103, qty), 0, 0, qty, 0)
			lie(t, b, was...)
			b = with(t, buyers...)
			was = look(t, b)
			meets(t, b, comes(api.Sell, kind, 97, qty), 1, 200, qty, 0)
			lie(t, b, was...)
		}
	}
}

// 8.2: o of more lots than all have, and more than an order may.
func TestMeetsWithManyLots(t *testing.T) {
	for _, qty := range []int{15, api.MaxQty, api.MaxQty + 1, 1 << 32, math.MaxInt} {
		b := with(t, sellers...)
		meets(t, b, comes(api.Buy, api.Limit, 200, qty), 1, 200, qty-14, 0, fill(9, 2, 101, 3), fill(9, 3, 101, 2), fill(9, 4, 102, 5), fill(9, 1, 103, 4))
		lie(t, b)
	}
}

// 8.2: with nobody on the other side nothing is traded; those of its own side are not met, and o itself does not lie.
func TestMeetsNobody(t *testing.T) {
	for _, kind := range []int{api.Limit, api.Market} {
		for _, side := range bothSides {
			meets(t, with(t), comes(side, kind, 100, 5), 1, 200, 5, 0)
		}
		b := with(t, sellers...)
		was := look(t, b)
		meets(t, b, comes(api.Sell, kind, 1, 5), 1, 200, 5, 0)
		lie(t, b, was...)
		b = with(t, buyers...)
		was = look(t, b)
		meets(t, b, comes(api.Buy, kind, 200, 5), 1, 200, 5, 0)
		lie(t, b, was...)
	}
}

// 8.2: an order of no side, or whose Id lies: that it ends, and does not panic (P1), is all that is promised.
func TestMeetsEnds(t *testing.T) {
	all := []api.Order{sells(1, 4, 103), sells(2, 3, 101), buys(3, 4, 101), buys(4, 5, 102), market(5, api.Buy, 2), market(6, api.Sell, 2)}
	for _, side := range []int{math.MinInt, -1 << 32, -2, -1, 0, 3, 4, 1 << 32, 1<<32 + 1, 1<<32 + 2, math.MaxInt - 1, math.MaxInt} {
		for _, kind := range []int{api.Limit, api.Market, 9} {
			for _, price := range []int{math.MinInt, 0, 102, math.MaxInt} {
				meet(with(t, all...), comes(side, kind, price, 20), 1, 200)
			}
		}
	}
	for _, side := range bothSides {
		for _, id := range []int{1, 2, 3, 4, 5, 6, 0, -1, math.MinInt, math.MaxInt} {
			for _, qty := range []int{1, 20, math.MaxInt} {
				o := comes(side, api.Market, 1, qty)
				o.Id = id
				meet(with(t, all...), o, 1, 200)
			}
		}
	}
}

// P1: functions that are nil, or panic: allows has allowed nothing, and trades undoes no trade.
func TestMeetsNoPanic(t *testing.T) {
	yes, hears := func(int) bool { return true }, func(int) {}
	o := comes(api.Buy, api.Limit, 102, 6)
	for _, allows := range []func(int) bool{nil, func(int) bool { panic("no") }, func(int) bool { panic(nil) }} {
		b := with(t, sellers...)
		was := look(t, b)
		f, left, stopped := cross.Meets(b, o, allows, hears)
		if len(f) != 0 || left != o || !stopped {
			t.Fatalf("%v, %v, %v; want nothing traded, %v, stopped", f, left, stopped, o)
		}
		lie(t, b, was...)
	}
	for _, trades := range []func(int){nil, func(int) { panic("no") }} {
		b := with(t, sellers...)
		f, left, stopped := cross.Meets(b, o, yes, trades)
		if want := []api.Fill{fill(9, 2, 101, 3), fill(9, 3, 101, 2), fill(9, 4, 102, 1)}; !slices.Equal(f, want) || left.Qty != 0 || stopped {
			t.Fatalf("%v, %v, %v; want %v, none left, not stopped", f, left, stopped, want)
		}
		lie(t, b, sells(4, 4, 102), sells(1, 4, 103))
	}
}

// P4: the trades that are told are the caller's.
func TestMetAreTheCallers(t *testing.T) {
	b := with(t, sellers...)
	o := comes(api.Buy, api.Limit, 103, 4)
	one := meet(b, o, 1, 200)
	was := look(t, b)
	spoil(one.fills)
	lie(t, b, was...)
	two := meet(b, o, 1, 200)
	spoil(one.fills)
	if want := []api.Fill{fill(9, 3, 101, 1), fill(9, 4, 102, 3)}; !slices.Equal(two.fills, want) {
		t.Fatalf("%v, want %v", two.fills, want)
	}
	lie(t, b, sells(4, 2, 102), sells(1, 4, 103))
}
