package book_test

import (
	"errors"
	"fmt"
	"math"
	"slices"
	"testing"

	"openbell/api"
	"openbell/book"
)

// noSides are no sides; noIds may not be an order's number; noPrices and noLots are not Right.
var (
	noSides  = []int{math.MinInt, -1 << 32, -2, -1, 0, 3, 4, 1 << 32, 1<<32 + 1, 1<<32 + 2, math.MaxInt - 1, math.MaxInt}
	noIds    = []int{math.MinInt, -1 << 32, -2, -1, 0}
	noPrices = []int{math.MinInt, -api.MaxPrice, -1, 0, api.MaxPrice + 1, 1 << 32, 1<<32 + 1, math.MaxInt}
	noLots   = []int{math.MinInt, -api.MaxQty, -1, 0, api.MaxQty + 1, 1 << 32, 1<<32 + 1, math.MaxInt}
)

var (
	bothSides = []int{api.Buy, api.Sell}
	// kinds are the four, and numbers that are none: the book takes every Kind, and but for Market they are alike.
	kinds = []int{api.Limit, api.Market, api.Auction, api.Close, 0, -1, 9, 1<<32 + api.Market}
)

// is checks that an error is a plain Errno, without a place (P3).
func is(t *testing.T, what string, err error, want api.Errno) {
	t.Helper()
	var at *api.At
	if api.Tell(err) != want || errors.As(err, &at) {
		t.Fatalf("%s: error %v (a place: %v), want %v", what, err, at, want)
	}
}

// adds lets orders lie that may.
func adds(t *testing.T, b *book.Book, l ...api.Order) {
	t.Helper()
	for _, o := range l {
		is(t, "Add", b.Add(o), api.OK)
	}
}

// with is a book in which these lie.
func with(t *testing.T, l ...api.Order) *book.Book {
	t.Helper()
	b := book.New()
	if b == nil || b.Many() != 0 {
		t.Fatal("New: no empty book")
	}
	adds(t, b, l...)
	return b
}

// looks is all that a book can be asked without changing it.
type looks struct {
	sides  [2][]api.Order
	depths [2][]api.Level
	many   int
}

func look(t *testing.T, b *book.Book) looks {
	t.Helper()
	l := looks{many: b.Many()}
	for i, side := range bothSides {
		var err error
		l.sides[i], err = b.Side(side)
		is(t, "Side", err, api.OK)
		l.depths[i], err = b.Depth(side)
		is(t, "Depth", err, api.OK)
	}
	return l
}

// same checks that a book is as it was.
func same(t *testing.T, what string, b *book.Book, was looks) {
	t.Helper()
	now := look(t, b)
	for i := range bothSides {
		if !slices.Equal(now.sides[i], was.sides[i]) || !slices.Equal(now.depths[i], was.depths[i]) {
			t.Fatalf("%s: %v, want %v as ahead", what, now, was)
		}
	}
	if now.many != was.many {
		t.Fatalf("%s: %d orders, want %d as ahead", what, now.many, was.many)
	}
}

// refuses checks that an order is not taken, why, and that nothing is changed (P2).
func refuses(t *testing.T, b *book.Book, o api.Order, want api.Errno) {
	t.Helper()
	was := look(t, b)
	is(t, fmt.Sprintf("Add(%+v)", o), b.Add(o), want)
	same(t, "Add refused", b, was)
}

// missing checks that a number does not lie, and that to ask for it changes nothing.
func missing(t *testing.T, b *book.Book, id int) {
	t.Helper()
	was := look(t, b)
	o, err := b.Order(id)
	is(t, "Order", err, api.ErrMissing)
	c, err := b.Cancel(id)
	is(t, "Cancel", err, api.ErrMissing)
	for _, qty := range append([]int{1, api.MaxQty}, noLots...) {
		is(t, "Cut", b.Cut(id, qty), api.ErrMissing)
	}
	if o != (api.Order{}) || c != (api.Order{}) {
		t.Fatalf("%d: %v, %v beside ErrMissing", id, o, c)
	}
	same(t, "a number that does not lie", b, was)
}

// lies checks an order that lies.
func lies(t *testing.T, b *book.Book, want api.Order) {
	t.Helper()
	o, err := b.Order(want.Id)
	is(t, "Order", err, api.OK)
	if o != want {
		t.Fatalf("Order(%d): %v, want %v", want.Id, o, want)
	}
}

// ranks checks the numbers of a side's orders, the best first, and Best.
func ranks(t *testing.T, b *book.Book, side int, ids ...int) {
	t.Helper()
	l, err := b.Side(side)
	is(t, "Side", err, api.OK)
	var got []int
	for _, o := range l {
		got = append(got, o.Id)
		lies(t, b, o)
	}
	if !slices.Equal(got, ids) {
		t.Fatalf("Side(%d): %v, want %v", side, got, ids)
	}
	best, err := b.Best(side)
	if len(ids) == 0 {
		is(t, "Best", err, api.ErrNone)
		if best != (api.Order{}) {
			t.Fatalf("Best(%d): %v beside ErrNone", side, best)
		}
		return
	}
	is(t, "Best", err, api.OK)
	if best != l[0] {
		t.Fatalf("Best(%d): %v, want %v", side, best, l[0])
	}
}

// deep checks a side's levels.
func deep(t *testing.T, b *book.Book, side int, want ...api.Level) {
	t.Helper()
	l, err := b.Depth(side)
	is(t, "Depth", err, api.OK)
	if !slices.Equal(l, want) {
		t.Fatalf("Depth(%d): %v, want %v", side, l, want)
	}
}

func buy(id, kind, price, qty int) api.Order {
	return api.Order{Id: id, Side: api.Buy, Kind: kind, Price: price, Qty: qty}
}

func sell(id, kind, price, qty int) api.Order {
	return api.Order{Id: id, Side: api.Sell, Kind: kind, Price: price, Qty: qty}
}

// 4.2: a side with none.
func TestEmpty(t *testing.T) {
	b := with(t)
	for _, side := range bothSides {
		ranks(t, b, side)
		deep(t, b, side)
	}
	for _, id := range append([]int{1, 2, math.MaxInt}, noIds...) {
		missing(t, b, id)
	}
	adds(t, b, buy(1, api.Limit, 5, 3))
	ranks(t, b, api.Sell)
	deep(t, b, api.Sell)
	ranks(t, b, api.Buy, 1)
}

// 4.2: of Buy the greatest price is the best, of Sell the least; the document's example 4.
func TestByPrice(t *testing.T) {
	b := with(t, buy(1, api.Limit, 5, 3), buy(2, api.Limit, 7, 3))
	ranks(t, b, api.Buy, 2, 1)
	adds(t, b, buy(3, api.Limit, 6, 1), buy(4, api.Limit, 1, 1), buy(5, api.Limit, api.MaxPrice, 1))
	ranks(t, b, api.Buy, 5, 2, 3, 1, 4)
	adds(t, b, sell(11, api.Limit, 5, 3), sell(12, api.Limit, 7, 3), sell(13, api.Limit, 6, 1), sell(14, api.Limit, 1, 1), sell(15, api.Limit, api.MaxPrice, 1))
	ranks(t, b, api.Sell, 14, 11, 13, 12, 15)
	ranks(t, b, api.Buy, 5, 2, 3, 1, 4)
	if n := b.Many(); n != 10 {
		t.Errorf("Many: %d, want 10", n)
	}
}

// 4.1, 4.2: of one price the eldest first, whatever their numbers, lots and kinds are.
func TestByTime(t *testing.T) {
	for _, side := range bothSides {
		b := with(t)
		for i, kind := range []int{api.Limit, api.Close, api.Auction, 9, api.Limit, 0} {
			adds(t, b, api.Order{Id: 10 - i, Side: side, Kind: kind, Price: 50, Qty: 1 + i*i%4})
		}
		ranks(t, b, side, 10, 9, 8, 7, 6, 5)
		adds(t, b, api.Order{Id: 30, Side: side, Kind: api.Limit, Price: 49, Qty: 1}, api.Order{Id: 31, Side: side, Kind: api.Limit, Price: 51, Qty: 1}, api.Order{Id: 1, Side: side, Kind: api.Limit, Price: 50, Qty: 9})
		ends := [2]int{31, 30}
		if side == api.Sell {
			ends = [2]int{30, 31}
		}
		ranks(t, b, side, ends[0], 10, 9, 8, 7, 6, 5, 1, ends[1])
	}
}

// 4.1, 4.2: Market orders lie ahead of all others of their side, even of those at the best price that may be, among themselves by time.
func TestMarketFirst(t *testing.T) {
	for _, side := range bothSides {
		b := with(t)
		for i, o := range []api.Order{{Kind: api.Limit, Price: 1}, {Kind: api.Market, Price: 9}, {Kind: api.Limit, Price: api.MaxPrice}, {Kind: api.Market, Price: api.MaxPrice}, {Kind: api.Close, Price: 1}, {Kind: api.Market, Price: 1}, {Kind: api.Auction, Price: api.MaxPrice}} {
			o.Id, o.Side, o.Qty = 20-i, side, 5
			adds(t, b, o)
		}
		if side == api.Buy {
			ranks(t, b, side, 19, 17, 15, 18, 14, 20, 16)
		} else {
			ranks(t, b, side, 19, 17, 15, 20, 16, 18, 14)
		}
		ranks(t, b, api.Buy+api.Sell-side)
	}
}

// 4.1, Add: a Market order's Price is 1, whatever it was; it is never ErrRange, but its Qty may be.
func TestMarketPrice(t *testing.T) {
	for _, side := range bothSides {
		b := with(t)
		for i, price := range append([]int{1, 2, 50, api.MaxPrice}, noPrices...) {
			o := api.Order{Id: i + 1, Side: side, Kind: api.Market, Price: price, Qty: i + 1}
			adds(t, b, o)
			o.Price = 1
			lies(t, b, o)
			for _, qty := range noLots {
				refuses(t, b, api.Order{Id: 100, Side: side, Kind: api.Market, Price: price, Qty: qty}, api.ErrRange)
			}
		}
		deep(t, b, side)
		best, err := b.Best(side)
		is(t, "Best", err, api.OK)
		if want := (api.Order{Id: 1, Side: side, Kind: api.Market, Price: 1, Qty: 1}); best != want {
			t.Errorf("Best: %v, want %v", best, want)
		}
		o, err := b.Cancel(3)
		is(t, "Cancel", err, api.OK)
		if want := (api.Order{Id: 3, Side: side, Kind: api.Market, Price: 1, Qty: 3}); o != want {
			t.Errorf("Cancel: %v, want %v", o, want)
		}
	}
}

// 4.1, Add: the least and the greatest that may be; orders of both sides lie, though they could trade.
func TestAddEdges(t *testing.T) {
	b := with(t)
	id := 0
	for _, price := range []int{1, api.MaxPrice} {
		for _, qty := range []int{1, api.MaxQty} {
			for _, side := range bothSides {
				for _, kind := range []int{api.Limit, api.Auction, api.Close, 0, -1, 9, 1<<32 + api.Market} {
					id++
					o := api.Order{Id: id, Side: side, Kind: kind, Price: price, Qty: qty}
					adds(t, b, o)
					lies(t, b, o)
				}
			}
		}
	}
	o := buy(math.MaxInt, api.Limit, 7, 7)
	adds(t, b, o)
	lies(t, b, o)
	if n := b.Many(); n != id+1 {
		t.Errorf("Many: %d, want %d", n, id+1)
	}
}

// 4.1, Add: each thing that is wrong, alone.
func TestAddWrong(t *testing.T) {
	b := with(t, buy(1, api.Limit, 5, 3), sell(2, api.Limit, 7, 3), buy(3, api.Market, 5, 3))
	for _, kind := range kinds {
		for _, side := range noSides {
			refuses(t, b, api.Order{Id: 9, Side: side, Kind: kind, Price: 5, Qty: 3}, api.ErrArg)
		}
		for _, side := range bothSides {
			for _, id := range noIds {
				refuses(t, b, api.Order{Id: id, Side: side, Kind: kind, Price: 5, Qty: 3}, api.ErrArg)
			}
			for _, price := range noPrices {
				if kind != api.Market {
					refuses(t, b, api.Order{Id: 9, Side: side, Kind: kind, Price: price, Qty: 3}, api.ErrRange)
				}
			}
			for _, qty := range noLots {
				refuses(t, b, api.Order{Id: 9, Side: side, Kind: kind, Price: 5, Qty: qty}, api.ErrRange)
			}
			for id := range 3 {
				refuses(t, b, api.Order{Id: id + 1, Side: side, Kind: kind, Price: 5, Qty: 3}, api.ErrTwice)
			}
		}
	}
	for _, id := range append([]int{9}, noIds...) {
		missing(t, b, id)
	}
}

// full is a book in which MaxBook orders lie, on both sides, with the numbers from 1 on.
func full(t *testing.T) *book.Book {
	t.Helper()
	b := with(t)
	for i := range api.MaxBook {
		adds(t, b, api.Order{Id: i + 1, Side: 1 + i%2, Kind: 1 + i%4, Price: 40 + i%7, Qty: 1 + i})
		if n := b.Many(); n != i+1 {
			t.Fatalf("Many: %d, want %d", n, i+1)
		}
	}
	return b
}

// 4.1, Add: as many as may lie, of both sides together, and one more; as soon as one is gone there is room for one.
func TestFull(t *testing.T) {
	b := full(t)
	for _, side := range bothSides {
		for _, kind := range kinds {
			refuses(t, b, api.Order{Id: api.MaxBook + 1, Side: side, Kind: kind, Price: 5, Qty: 3}, api.ErrFull)
		}
	}
	missing(t, b, api.MaxBook+1)
	_, err := b.Cancel(17)
	is(t, "Cancel", err, api.OK)
	adds(t, b, buy(101, api.Limit, 5, 3))
	refuses(t, b, buy(17, api.Limit, 5, 3), api.ErrFull)
	is(t, "Cut", b.Cut(60, 59), api.OK)
	refuses(t, b, buy(17, api.Limit, 5, 3), api.ErrFull)
	is(t, "Cut", b.Cut(60, 1), api.OK)
	adds(t, b, sell(17, api.Limit, 5, 3))
	refuses(t, b, sell(60, api.Limit, 5, 3), api.ErrFull)

	one := with(t)
	for i := range api.MaxBook {
		adds(t, one, sell(i+1, api.Limit, 5, 3))
	}
	refuses(t, one, buy(api.MaxBook+1, api.Limit, 5, 3), api.ErrFull)
	deep(t, one, api.Sell, api.Level{Price: 5, Qty: 3 * api.MaxBook, Orders: api.MaxBook})
}

// 4.1, Add: where several are wrong the one that is told first.
func TestWhichFirst(t *testing.T) {
	b := full(t)
	for _, c := range []struct {
		o    api.Order
		want api.Errno
	}{
		{api.Order{Id: 0, Side: 0, Kind: api.Limit, Price: 0, Qty: 0}, api.ErrArg},
		{api.Order{Id: 1, Side: 3, Kind: api.Limit, Price: 0, Qty: 0}, api.ErrArg},
		{api.Order{Id: 1, Side: 3, Kind: api.Limit, Price: 5, Qty: 3}, api.ErrArg},
		{api.Order{Id: 101, Side: 3, Kind: api.Market, Price: 5, Qty: 3}, api.ErrArg},
		{buy(-1, api.Limit, 0, 3), api.ErrArg},
		{buy(-1, api.Market, 0, 0), api.ErrArg},
		{sell(0, api.Limit, 5, 3), api.ErrArg},
		{buy(1, api.Limit, 0, 3), api.ErrRange},
		{buy(1, api.Limit, 5, 0), api.ErrRange},
		{buy(1, api.Market, 0, 0), api.ErrRange},
		{buy(101, api.Limit, 0, 3), api.ErrRange},
		{buy(101, api.Limit, 5, 0), api.ErrRange},
		{buy(101, api.Market, 5, 0), api.ErrRange},
		{buy(1, api.Limit, 5, 3), api.ErrTwice},
		{sell(1, api.Limit, 5, 3), api.ErrTwice},
		{sell(100, api.Market, 0, 3), api.ErrTwice},
		{sell(101, api.Market, 0, 3), api.ErrFull},
		{buy(101, api.Limit, 5, 3), api.ErrFull},
	} {
		refuses(t, b, c.o, c.want)
	}
}

// 4.1, Add: a number that lay and is gone may lie again, behind those that lie.
func TestIdAgain(t *testing.T) {
	b := with(t, buy(1, api.Limit, 5, 3), buy(2, api.Limit, 5, 3), buy(3, api.Limit, 5, 3))
	refuses(t, b, sell(1, api.Limit, 8, 3), api.ErrTwice)
	_, err := b.Cancel(1)
	is(t, "Cancel", err, api.OK)
	missing(t, b, 1)
	adds(t, b, buy(1, api.Limit, 5, 4))
	ranks(t, b, api.Buy, 2, 3, 1)
	is(t, "Cut", b.Cut(2, 3), api.OK)
	missing(t, b, 2)
	adds(t, b, sell(2, api.Limit, 8, 4))
	ranks(t, b, api.Buy, 3, 1)
	ranks(t, b, api.Sell, 2)
}

// 4.1, Cancel: the order as it lies is told, and lies no more; the others keep their places.
func TestCancel(t *testing.T) {
	b := with(t, sell(1, api.Limit, 5, 3), sell(2, api.Auction, 5, 7), sell(3, api.Close, 5, 3), sell(4, api.Market, 5, 3), buy(5, 9, 5, 3))
	is(t, "Cut", b.Cut(2, 3), api.OK)
	o, err := b.Cancel(2)
	is(t, "Cancel", err, api.OK)
	if want := sell(2, api.Auction, 5, 4); o != want {
		t.Errorf("Cancel: %v, want %v", o, want)
	}
	missing(t, b, 2)
	ranks(t, b, api.Sell, 4, 1, 3)
	ranks(t, b, api.Buy, 5)
	for i, id := range []int{4, 3, 5, 1} {
		was, err := b.Order(id)
		is(t, "Order", err, api.OK)
		o, err := b.Cancel(id)
		is(t, "Cancel", err, api.OK)
		if o != was || b.Many() != 3-i {
			t.Fatalf("Cancel(%d): %v, %d lie, want %v, %d", id, o, b.Many(), was, 3-i)
		}
		missing(t, b, id)
	}
	ranks(t, b, api.Sell)
	ranks(t, b, api.Buy)
	deep(t, b, api.Sell)
}

// 4.1, Cut: of one lot, of all but one, of all that it has; it keeps its place behind a cut.
func TestCut(t *testing.T) {
	for _, kind := range []int{api.Limit, api.Market} {
		for _, side := range bothSides {
			b := with(t)
			for i := range 3 {
				adds(t, b, api.Order{Id: i + 1, Side: side, Kind: kind, Price: 1, Qty: 10})
			}
			left := 10
			for _, qty := range []int{1, 3, 5} {
				is(t, "Cut", b.Cut(2, qty), api.OK)
				left -= qty
				lies(t, b, api.Order{Id: 2, Side: side, Kind: kind, Price: 1, Qty: left})
				ranks(t, b, side, 1, 2, 3)
			}
			is(t, "Cut", b.Cut(1, 9), api.OK)
			ranks(t, b, side, 1, 2, 3)
			is(t, "Cut", b.Cut(2, 1), api.OK)
			missing(t, b, 2)
			ranks(t, b, side, 1, 3)
			is(t, "Cut", b.Cut(3, 10), api.OK)
			missing(t, b, 3)
			ranks(t, b, side, 1)
			lies(t, b, api.Order{Id: 1, Side: side, Kind: kind, Price: 1, Qty: 1})
		}
	}
}

// 4.1, Cut: of 0 or fewer lots, or more than it has, even if it had them: ErrRange, and nothing is changed.
func TestCutWrong(t *testing.T) {
	b := with(t, buy(1, api.Limit, 5, 10), sell(2, api.Market, 5, api.MaxQty), buy(3, api.Limit, 5, 1))
	check := func(id, has int) {
		t.Helper()
		was := look(t, b)
		for _, qty := range append([]int{has + 1, has + 2, -has}, noLots...) {
			is(t, "Cut", b.Cut(id, qty), api.ErrRange)
			same(t, "Cut refused", b, was)
		}
	}
	check(1, 10)
	check(2, api.MaxQty)
	check(3, 1)
	is(t, "Cut", b.Cut(1, 4), api.OK)
	check(1, 6)
}

// 4.2, Depth: a Level a price, without Market orders, in the order of Side.
func TestDepth(t *testing.T) {
	b := with(t, buy(1, api.Limit, 5, 3), buy(2, api.Market, 5, 100), buy(3, api.Limit, 7, 1), buy(4, api.Auction, 5, 4), buy(5, api.Market, 1, 100), buy(6, api.Close, 1, api.MaxQty), buy(7, 9, 7, 2), buy(8, api.Limit, 1, api.MaxQty))
	adds(t, b, sell(11, api.Limit, 9, 3), sell(12, api.Market, 5, 100), sell(13, api.Limit, 1, 6), sell(14, api.Limit, 9, 1))
	deep(t, b, api.Buy, api.Level{Price: 7, Qty: 3, Orders: 2}, api.Level{Price: 5, Qty: 7, Orders: 2}, api.Level{Price: 1, Qty: 2 * api.MaxQty, Orders: 2})
	deep(t, b, api.Sell, api.Level{Price: 1, Qty: 6, Orders: 1}, api.Level{Price: 9, Qty: 4, Orders: 2})
	is(t, "Cut", b.Cut(4, 1), api.OK)
	is(t, "Cut", b.Cut(13, 6), api.OK)
	_, err := b.Cancel(7)
	is(t, "Cancel", err, api.OK)
	deep(t, b, api.Buy, api.Level{Price: 7, Qty: 1, Orders: 1}, api.Level{Price: 5, Qty: 6, Orders: 2}, api.Level{Price: 1, Qty: 2 * api.MaxQty, Orders: 2})
	deep(t, b, api.Sell, api.Level{Price: 9, Qty: 4, Orders: 2})
}

// 4.2: ErrArg of no side, ahead of ErrNone, and nothing beside it.
func TestNoSide(t *testing.T) {
	for _, b := range []*book.Book{with(t), full(t)} {
		for _, side := range noSides {
			l, err := b.Side(side)
			is(t, "Side", err, api.ErrArg)
			o, err := b.Best(side)
			is(t, "Best", err, api.ErrArg)
			d, err := b.Depth(side)
			is(t, "Depth", err, api.ErrArg)
			if len(l) != 0 || o != (api.Order{}) || len(d) != 0 {
				t.Fatalf("of %d: %v, %v, %v beside ErrArg", side, l, o, d)
			}
		}
	}
}

// P4: what comes out is the caller's, to the end of its room; what one book has is nothing to another one.
func TestListsAreTheCallers(t *testing.T) {
	b, other := full(t), full(t)
	was := look(t, b)
	for _, side := range bothSides {
		for range 2 {
			l, _ := b.Side(side)
			l = l[:cap(l)]
			for i := range l {
				l[i] = api.Order{Id: 7}
			}
			d, _ := b.Depth(side)
			d = d[:cap(d)]
			for i := range d {
				d[i] = api.Level{Price: 7}
			}
		}
	}
	same(t, "lists written into", b, was)
	kept := look(t, b)
	for id := range api.MaxBook {
		_, err := b.Cancel(id + 1)
		is(t, "Cancel", err, api.OK)
	}
	adds(t, b, buy(1, api.Limit, 8, 8), sell(2, api.Limit, 8, 8))
	for i := range bothSides {
		if !slices.Equal(kept.sides[i], was.sides[i]) || !slices.Equal(kept.depths[i], was.depths[i]) {
			t.Fatalf("a list that came out was changed: %v, want %v", kept, was)
		}
	}
	same(t, "another book", other, was)
}
