package cross_test

import (
	"errors"
	"fmt"
	"math"
	"slices"
	"testing"

	"openbell/api"
	"openbell/book"
	"openbell/cross"
)

var bothSides = []int{api.Buy, api.Sell}

// limits are Kinds that are not Market, and numbers that are no Kind: chapter 8 names Market alone, and all others are alike.
var limits = []int{api.Limit, api.Auction, api.Close, 0, -1, 5, 9, 1<<32 + api.Market, math.MinInt, math.MaxInt}

// buys and sells are orders with a price.
func buys(id, qty, price int) api.Order {
	return api.Order{Id: id, Side: api.Buy, Kind: api.Limit, Price: price, Qty: qty}
}

func sells(id, qty, price int) api.Order {
	return api.Order{Id: id, Side: api.Sell, Kind: api.Limit, Price: price, Qty: qty}
}

// market is an order at any price; its Price is 1, as it lies.
func market(id, side, qty int) api.Order {
	return api.Order{Id: id, Side: side, Kind: api.Market, Price: 1, Qty: qty}
}

func fill(buyer, seller, price, qty int) api.Fill {
	return api.Fill{Buyer: buyer, Seller: seller, Price: price, Qty: qty}
}

// is checks that an error is a plain Errno, without a place (P3).
func is(t *testing.T, what string, err error, want api.Errno) {
	t.Helper()
	var at *api.At
	if api.Tell(err) != want || errors.As(err, &at) {
		t.Fatalf("%s: error %v (a place: %v), want %v", what, err, at, want)
	}
}

// with is a book in which these lie.
func with(t *testing.T, l ...api.Order) *book.Book {
	t.Helper()
	b := book.New()
	for _, o := range l {
		is(t, fmt.Sprintf("Add(%+v)", o), b.Add(o), api.OK)
	}
	return b
}

// look is all orders that lie: those who buy, the best first, then those who sell.
func look(t *testing.T, b *book.Book) []api.Order {
	t.Helper()
	var l []api.Order
	for _, side := range bothSides {
		o, err := b.Side(side)
		is(t, "Side", err, api.OK)
		l = append(l, o...)
	}
	if b.Many() != len(l) {
		t.Fatalf("Many: %d, but on both sides lie %v", b.Many(), l)
	}
	return l
}

// lie checks which orders lie.
func lie(t *testing.T, b *book.Book, want ...api.Order) {
	t.Helper()
	if got := look(t, b); !slices.Equal(got, want) {
		t.Fatalf("there lie %v, want %v", got, want)
	}
}

// fills checks the trades of Fills.
func fills(t *testing.T, b *book.Book, price, qty int, want ...api.Fill) {
	t.Helper()
	got, err := cross.Fills(b, price, qty)
	is(t, fmt.Sprintf("Fills at %d of %d", price, qty), err, api.OK)
	if !slices.Equal(got, want) {
		t.Fatalf("Fills at %d of %d: %v, want %v", price, qty, got, want)
	}
}

// refuses checks ErrRange, that nothing stands beside it, and that nothing is changed (P2).
func refuses(t *testing.T, b *book.Book, price, qty int) {
	t.Helper()
	was := look(t, b)
	got, err := cross.Fills(b, price, qty)
	is(t, fmt.Sprintf("Fills at %d of %d", price, qty), err, api.ErrRange)
	if len(got) != 0 {
		t.Fatalf("Fills at %d of %d: %v beside ErrRange", price, qty, got)
	}
	lie(t, b, was...)
}

// sum is how many lots are traded.
func sum(l []api.Fill) int {
	n := 0
	for _, f := range l {
		n += f.Qty
	}
	return n
}

// most checks that from 1 to so many lots may be traded at a price, and no other number of them.
func most(t *testing.T, price, want int, l ...api.Order) {
	t.Helper()
	for qty := 1; qty <= want; qty++ {
		got, err := cross.Fills(with(t, l...), price, qty)
		is(t, fmt.Sprintf("Fills at %d of %d", price, qty), err, api.OK)
		if sum(got) != qty {
			t.Fatalf("Fills at %d of %d: %v, of %d lots", price, qty, got, sum(got))
		}
	}
	b := with(t, l...)
	for _, qty := range []int{want + 1, want + 2, want + api.MaxQty, 1 << 32, 1<<32 + 1, 1<<32 + want, math.MaxInt - 1, math.MaxInt} {
		refuses(t, b, price, qty)
	}
	for _, qty := range []int{0, -1, -want, -api.MaxQty, -1 << 32, 1 - 1<<32, math.MinInt + 1, math.MinInt} {
		refuses(t, b, price, qty)
	}
}

// 8.1: two orders trade as many lots as are asked for, both are cut by that, and who has none left lies no more.
func TestFillsTwo(t *testing.T) {
	all := []api.Order{buys(1, 5, 10), sells(2, 3, 8)}
	b := with(t, all...)
	fills(t, b, 9, 1, fill(1, 2, 9, 1))
	lie(t, b, buys(1, 4, 10), sells(2, 2, 8))
	fills(t, b, 10, 2, fill(1, 2, 10, 2))
	lie(t, b, buys(1, 2, 10))
	refuses(t, b, 9, 1)

	b = with(t, all...)
	fills(t, b, 8, 3, fill(1, 2, 8, 3))
	lie(t, b, buys(1, 2, 10))

	b = with(t, buys(1, 3, 10), sells(2, 3, 8))
	fills(t, b, 9, 3, fill(1, 2, 9, 3))
	lie(t, b)
}

// 8.1: qty is from 1 to the lots of the side that has fewer willing ones, whichever that is.
func TestFillsRange(t *testing.T) {
	l := []api.Order{buys(1, 5, 10), buys(2, 4, 9), buys(3, 3, 7), sells(4, 2, 6), sells(5, 4, 8), sells(6, 20, 9)}
	most(t, 5, 0, l...)
	most(t, 6, 2, l...)
	most(t, 7, 2, l...)
	most(t, 8, 6, l...)
	most(t, 9, 9, l...)
	most(t, 10, 5, l...)
	most(t, 11, 0, l...)
	most(t, 9, 0)
	most(t, 9, 0, l[:3]...)
	most(t, 9, 0, l[3:]...)
}

// 8.1: at a price of no order, between those of orders, below all and above all; of any number.
func TestFillsPrices(t *testing.T) {
	l := []api.Order{buys(1, 5, 20), buys(2, 5, 30), sells(3, 5, 10), sells(4, 5, 25)}
	most(t, 15, 5, l...)
	most(t, 27, 5, l...)
	for _, price := range []int{9, 1, 0, -1, -1 << 32, math.MinInt, 31, api.MaxPrice, api.MaxPrice + 1, 1 << 32, 1<<32 + 15, math.MaxInt} {
		most(t, price, 0, l...)
		// Who trades at any price does so at these, too: with the others of one side alone.
		sold, bought := 10, 0
		if price > 30 {
			sold, bought = bought, sold
		}
		most(t, price, sold, append(l, market(5, api.Sell, 90))...)
		most(t, price, bought, append(l, market(5, api.Buy, 90))...)
	}
	b := with(t, append(l, market(5, api.Sell, 8))...)
	fills(t, b, -7, 8, fill(2, 5, -7, 5), fill(1, 5, -7, 3))
	lie(t, b, buys(1, 2, 20), sells(3, 5, 10), sells(4, 5, 25))
}

// 8.1: who is not willing stays as it was, and is not traded with.
func TestFillsWilling(t *testing.T) {
	b := with(t, buys(1, 4, 8), buys(2, 4, 9), buys(3, 4, 10), sells(4, 4, 10), sells(5, 4, 9), sells(6, 4, 8))
	fills(t, b, 9, 8, fill(3, 6, 9, 4), fill(2, 5, 9, 4))
	lie(t, b, buys(1, 4, 8), sells(4, 4, 10))
	refuses(t, b, 9, 1)
	refuses(t, b, 8, 1)
	refuses(t, b, 10, 1)
}

// 8.1: a price of its own is enough on both sides, and one tick beyond it is not, of all Kinds but Market alike.
func TestFillsKinds(t *testing.T) {
	for _, kind := range limits {
		buy, sell := buys(1, 2, 10), sells(2, 2, 10)
		buy.Kind, sell.Kind = kind, kind
		most(t, 10, 2, buy, sell)
		most(t, 9, 0, buy, sell)
		most(t, 11, 0, buy, sell)
		most(t, 9, 2, buy, market(3, api.Sell, 9))
		most(t, 11, 0, buy, market(3, api.Sell, 9))
		most(t, 11, 2, sell, market(3, api.Buy, 9))
		most(t, 9, 0, sell, market(3, api.Buy, 9))
	}
}

// 8.1: Market orders on one side, on both, and alone: they are willing at each price, and the best of their side.
func TestFillsMarket(t *testing.T) {
	b := with(t, buys(1, 4, 12), market(2, api.Buy, 3), sells(3, 5, 9), sells(4, 5, 8))
	fills(t, b, 10, 7, fill(2, 4, 10, 3), fill(1, 4, 10, 2), fill(1, 3, 10, 2))
	lie(t, b, sells(3, 3, 9))

	b = with(t, buys(1, 4, 12), buys(2, 3, 13), sells(3, 5, 9), market(4, api.Sell, 5))
	fills(t, b, 10, 7, fill(2, 4, 10, 3), fill(1, 4, 10, 2), fill(1, 3, 10, 2))
	lie(t, b, sells(3, 3, 9))

	b = with(t, buys(1, 4, 12), sells(2, 4, 9), market(3, api.Sell, 1), market(4, api.Buy, 2), market(5, api.Buy, 1))
	fills(t, b, 10, 5, fill(4, 3, 10, 1), fill(4, 2, 10, 1), fill(5, 2, 10, 1), fill(1, 2, 10, 2))
	lie(t, b, buys(1, 2, 12))
}

// 8.1: where nobody names a price all prices are alike.
func TestFillsMarketAlone(t *testing.T) {
	for _, price := range []int{math.MinInt, -1, 0, 1, 2, 100, api.MaxPrice, api.MaxPrice + 1, math.MaxInt} {
		l := []api.Order{market(1, api.Buy, 4), market(2, api.Sell, 3), market(3, api.Sell, 9)}
		most(t, price, 4, l...)
		b := with(t, l...)
		fills(t, b, price, 4, fill(1, 2, price, 3), fill(1, 3, price, 1))
		lie(t, b, market(3, api.Sell, 8))
		most(t, price, 0, l[:1]...)
		most(t, price, 0, l[1:]...)
	}
}

// 8.1: of one price the eldest goes first, on both sides, and keeps its place with the lots that are left.
func TestFillsEldest(t *testing.T) {
	b := with(t, buys(1, 3, 10), buys(2, 3, 10), buys(3, 3, 10), sells(4, 2, 10), sells(5, 2, 10), sells(6, 9, 10))
	fills(t, b, 10, 4, fill(1, 4, 10, 2), fill(1, 5, 10, 1), fill(2, 5, 10, 1))
	lie(t, b, buys(2, 2, 10), buys(3, 3, 10), sells(6, 9, 10))
	fills(t, b, 10, 1, fill(2, 6, 10, 1))
	fills(t, b, 10, 2, fill(2, 6, 10, 1), fill(3, 6, 10, 1))
	lie(t, b, buys(3, 2, 10), sells(6, 6, 10))
}

// 8.1: one order trades with several, on either side, and the last one is cut by what is left to trade.
func TestFillsSeveral(t *testing.T) {
	b := with(t, buys(1, 9, 10), sells(2, 2, 7), sells(3, 3, 9), sells(4, 1, 8), sells(5, 8, 10))
	fills(t, b, 10, 8, fill(1, 2, 10, 2), fill(1, 4, 10, 1), fill(1, 3, 10, 3), fill(1, 5, 10, 2))
	lie(t, b, buys(1, 1, 10), sells(5, 6, 10))

	b = with(t, sells(1, 9, 5), buys(2, 2, 7), buys(3, 3, 9), buys(4, 1, 8), buys(5, 8, 5))
	fills(t, b, 5, 8, fill(3, 1, 5, 3), fill(4, 1, 5, 1), fill(2, 1, 5, 2), fill(5, 1, 5, 2))
	lie(t, b, buys(5, 6, 5), sells(1, 1, 5))
}

// 8.1: with as many orders as may lie, of as many lots as may be, on both sides.
func TestFillsFull(t *testing.T) {
	var l []api.Order
	var want []api.Fill
	const half = api.MaxBook / 2
	for i := range half {
		l = append(l, buys(1+i, api.MaxQty, api.MaxPrice), sells(1+half+i, api.MaxQty, 1))
		want = append(want, fill(1+i, 1+half+i, 500, api.MaxQty))
	}
	b := with(t, l...)
	refuses(t, b, 500, half*api.MaxQty+1)
	fills(t, b, 500, half*api.MaxQty, want...)
	lie(t, b)
}

// P2: what is refused leaves all as it was, whichever side has too few lots.
func TestFillsRefused(t *testing.T) {
	l := []api.Order{buys(1, 5, 10), market(2, api.Buy, 2), sells(3, 4, 9), sells(4, 4, 12)}
	b := with(t, l...)
	for _, c := range []struct{ price, qty int }{{10, 0}, {10, -1}, {10, 5}, {9, 5}, {8, 1}, {12, 3}, {11, 3}, {10, math.MaxInt}, {10, math.MinInt}} {
		refuses(t, b, c.price, c.qty)
	}
	fills(t, b, 12, 2, fill(2, 3, 12, 2))
}

// P4: the trades that are told are the caller's: to write into them, and behind them, changes nothing, and no two lists share memory.
func TestFillsAreTheCallers(t *testing.T) {
	b := with(t, buys(1, 5, 10), buys(2, 5, 10), sells(3, 5, 10), sells(4, 5, 10))
	one, err := cross.Fills(b, 10, 3)
	is(t, "Fills", err, api.OK)
	was := look(t, b)
	spoil(one)
	lie(t, b, was...)
	two, err := cross.Fills(b, 10, 4)
	is(t, "Fills", err, api.OK)
	want := []api.Fill{fill(1, 3, 10, 2), fill(2, 4, 10, 2)}
	spoil(one)
	if !slices.Equal(two, want) {
		t.Fatalf("Fills: %v, want %v", two, want)
	}
	lie(t, b, buys(2, 3, 10), sells(4, 3, 10))
}

// spoil writes into a list, and behind it, as far as its memory goes.
func spoil(l []api.Fill) {
	l = l[:cap(l)]
	for i := range l {
		l[i] = fill(-1, -1, -1, -1)
	}
}
