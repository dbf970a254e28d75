package indic_test

import (
	"errors"
	"fmt"
	"math"
	"slices"
	"testing"

	"openbell/api"
	"openbell/curve"
	"openbell/indic"
)

// noSides are no sides; noPrices and noLots may not be.
var (
	noSides  = []int{math.MinInt, -1 << 32, -2, -1, 0, 3, 4, 1 << 32, 1<<32 + 1, 1<<32 + 2, math.MaxInt - 1, math.MaxInt}
	noPrices = []int{math.MinInt, -api.MaxPrice, -1, 0, api.MaxPrice + 1, 1 << 32, 1<<32 + 1, math.MaxInt}
	noLots   = []int{math.MinInt, -api.MaxQty, -1, 0, api.MaxQty + 1, 1 << 32, 1<<32 + 1, math.MaxInt}
)

var (
	bothSides = []int{api.Buy, api.Sell}
	// limits are Kinds that are not Market, and numbers that are no Kind: 7.1 names no error for these, and all are alike.
	limits = []int{api.Limit, api.Auction, api.Close, 0, -1, 5, 9, 1<<32 + api.Market, math.MinInt, math.MaxInt}
)

// buys, sells and market are orders; none has an Id, for none needs one.
func buys(qty, price int) api.Order {
	return api.Order{Side: api.Buy, Kind: api.Limit, Price: price, Qty: qty}
}

func sells(qty, price int) api.Order {
	return api.Order{Side: api.Sell, Kind: api.Limit, Price: price, Qty: qty}
}

func market(side, qty, price int) api.Order {
	return api.Order{Side: side, Kind: api.Market, Price: price, Qty: qty}
}

func point(price, demand, supply int) curve.Point {
	return curve.Point{Price: price, Demand: demand, Supply: supply}
}

// is checks that an error is a plain Errno, without a place (P3).
func is(t *testing.T, what string, err error, want api.Errno) {
	t.Helper()
	var at *api.At
	if api.Tell(err) != want || errors.As(err, &at) {
		t.Fatalf("%s: error %v (a place: %v), want %v", what, err, at, want)
	}
}

// adds and takes tell of orders that may be.
func adds(t *testing.T, x *indic.Indic, l ...api.Order) {
	t.Helper()
	for _, o := range l {
		is(t, fmt.Sprintf("Add(%+v)", o), x.Add(o), api.OK)
	}
}

func takes(t *testing.T, x *indic.Indic, l ...api.Order) {
	t.Helper()
	for _, o := range l {
		is(t, fmt.Sprintf("Take(%+v)", o), x.Take(o), api.OK)
	}
}

// with is an Indic with the lots of orders.
func with(t *testing.T, l ...api.Order) *indic.Indic {
	t.Helper()
	x := new(indic.Indic)
	adds(t, x, l...)
	return x
}

// has checks Points, twice: to ask changes nothing.
func has(t *testing.T, x *indic.Indic, more int, want ...curve.Point) {
	t.Helper()
	for range 2 {
		if got := x.Points(more); !slices.Equal(got, want) {
			t.Fatalf("Points(%d): %v, want %v", more, got, want)
		}
	}
}

// quotes checks Quote, twice: to ask changes nothing.
func quotes(t *testing.T, x *indic.Indic, around int, want api.Quote) {
	t.Helper()
	for range 2 {
		if got := x.Quote(around); got != want {
			t.Fatalf("Quote(%d): %v, want %v", around, got, want)
		}
	}
}

// look is all lots of an Indic: those at prices, and, far above these, those at any.
func look(x *indic.Indic) []curve.Point {
	return slices.Concat(x.Points(0), x.Points(1), x.Points(math.MaxInt))
}

// refuses checks an error of a call, and that nothing is changed (P2).
func refuses(t *testing.T, x *indic.Indic, call func(api.Order) error, o api.Order, want api.Errno) {
	t.Helper()
	was := look(x)
	is(t, fmt.Sprintf("%+v", o), call(o), want)
	if now := look(x); !slices.Equal(now, was) {
		t.Fatalf("%+v refused: %v, want %v as ahead", o, now, was)
	}
}

// 7.1: the zero value has no lots: no point but more's, no quote, and nothing to take.
func TestZero(t *testing.T) {
	var x indic.Indic
	check := func() {
		t.Helper()
		for _, none := range []int{0, -1, -100, math.MinInt} {
			has(t, &x, none)
		}
		for _, more := range []int{1, 100, api.MaxPrice, api.MaxPrice + 1, math.MaxInt} {
			has(t, &x, more, curve.Point{Price: more})
		}
		for _, around := range []int{math.MinInt, -1, 0, 1, 100, api.MaxPrice, math.MaxInt} {
			quotes(t, &x, around, api.Quote{})
		}
		for _, side := range bothSides {
			for _, kind := range append([]int{api.Market}, limits...) {
				for _, qty := range []int{1, 5, api.MaxQty} {
					refuses(t, &x, x.Take, api.Order{Side: side, Kind: kind, Price: 100, Qty: qty}, api.ErrNone)
				}
			}
		}
	}
	check()
	// One from which all is taken is as it was at first.
	l := []api.Order{buys(5, 100), sells(3, 99), market(api.Buy, 2, 0), market(api.Sell, 1, 100), buys(1, 101)}
	adds(t, &x, l...)
	takes(t, &x, l...)
	check()
}

// 7.1, Add: the document's example 6; lots at one price on one side, and on both, and prices in whichever order they come.
func TestAdd(t *testing.T) {
	x := with(t, buys(5, 10), sells(3, 8))
	has(t, x, 9, point(8, 5, 3), point(9, 5, 3), point(10, 5, 3))
	quotes(t, x, 9, api.Quote{Price: 10, Qty: 3, Surplus: 2})
	adds(t, x, buys(2, 10))
	has(t, x, 0, point(8, 7, 3), point(10, 7, 3))
	adds(t, x, sells(4, 10))
	has(t, x, 0, point(8, 7, 3), point(10, 7, 7))
	adds(t, x, sells(1, 8), buys(6, 8))
	has(t, x, 0, point(8, 13, 4), point(10, 7, 8))
	adds(t, x, buys(1, 9), sells(1, 9))
	has(t, x, 0, point(8, 14, 4), point(9, 8, 5), point(10, 7, 9))

	l := []api.Order{sells(4, 12), buys(1, 12), sells(2, 10), buys(3, 11), buys(5, 10), sells(6, 11), buys(7, 10), sells(8, 13)}
	want := []curve.Point{point(10, 16, 2), point(11, 4, 8), point(12, 1, 12), point(13, 0, 20)}
	has(t, with(t, l...), 0, want...)
	slices.Reverse(l)
	has(t, with(t, l...), 0, want...)
	slices.SortFunc(l, func(a, b api.Order) int { return a.Price - b.Price })
	has(t, with(t, l...), 0, want...)
}

// 7.1, Take: of fewer lots than are there, of one more, of all.
func TestTake(t *testing.T) {
	for _, side := range bothSides {
		// Of the other side, and at the prices around, are more lots: they are no help.
		other := api.Buy + api.Sell - side
		lots := func(qty int) api.Order { return api.Order{Side: side, Kind: api.Limit, Price: 10, Qty: qty} }
		others := func(qty int) api.Order { return api.Order{Side: other, Kind: api.Limit, Price: 10, Qty: qty} }
		x := with(t, lots(7), others(50), market(side, 50, 10), market(other, 50, 10), buys(50, 9), sells(50, 9), buys(50, 11), sells(50, 11), lots(3))
		left := 10
		for _, qty := range []int{1, 4, 3} {
			refuses(t, x, x.Take, lots(left+1), api.ErrNone)
			refuses(t, x, x.Take, lots(api.MaxQty), api.ErrNone)
			takes(t, x, lots(qty))
			left -= qty
			want := point(10, 100+left, 150)
			if side == api.Sell {
				want = point(10, 150, 100+left)
			}
			if got := x.Points(0)[1]; got != want {
				t.Fatalf("Take(%+v): %v, want %v", lots(qty), got, want)
			}
		}
		refuses(t, x, x.Take, lots(3), api.ErrNone)
		takes(t, x, lots(2))
		refuses(t, x, x.Take, lots(1), api.ErrNone)
		takes(t, x, others(50))
		refuses(t, x, x.Take, others(1), api.ErrNone)
		has(t, x, 0, point(9, 150, 100), point(11, 100, 150))
	}
}

// 7.1, Take: of a side or a price that has none, of Market orders where none are, though there are lots elsewhere.
func TestTakeElsewhere(t *testing.T) {
	x := with(t, buys(5, 10), sells(5, 20))
	for _, o := range []api.Order{
		sells(1, 10), buys(1, 20), buys(1, 9), buys(1, 11), sells(1, 19), sells(1, 21),
		buys(1, 1), sells(1, api.MaxPrice), market(api.Buy, 1, 10), market(api.Sell, 1, 20),
	} {
		refuses(t, x, x.Take, o, api.ErrNone)
	}
	x = with(t, market(api.Buy, 5, 10))
	for _, o := range []api.Order{buys(1, 10), buys(1, 1), sells(1, 10), market(api.Sell, 1, 10)} {
		refuses(t, x, x.Take, o, api.ErrNone)
	}
}

// 7.1: a price whose lots are all taken is no point any more, one at which the other side has some is; it may come again.
func TestGone(t *testing.T) {
	x := with(t, buys(5, 10), sells(3, 10), buys(2, 12), sells(1, 8))
	takes(t, x, buys(5, 10))
	has(t, x, 0, point(8, 2, 1), point(10, 2, 4), point(12, 2, 4))
	takes(t, x, sells(2, 10))
	has(t, x, 0, point(8, 2, 1), point(10, 2, 2), point(12, 2, 2))
	takes(t, x, sells(1, 10))
	has(t, x, 0, point(8, 2, 1), point(12, 2, 1))
	has(t, x, 10, point(8, 2, 1), point(10, 2, 1), point(12, 2, 1))
	takes(t, x, sells(1, 8))
	has(t, x, 0, point(12, 2, 0))
	adds(t, x, sells(4, 10))
	has(t, x, 0, point(10, 2, 4), point(12, 2, 4))
	takes(t, x, buys(2, 12))
	has(t, x, 0, point(10, 0, 4))
	takes(t, x, sells(4, 10))
	has(t, x, 0)
}

// 7.1: a Market order's lots are at any price, whatever Price it has; alone they make no point, among others they are at each.
func TestMarket(t *testing.T) {
	for _, price := range append([]int{1, 8, 9, 10, api.MaxPrice}, noPrices...) {
		x := with(t, market(api.Buy, 5, price), market(api.Sell, 3, price), market(api.Buy, 1, 7))
		has(t, x, 0)
		has(t, x, -4)
		has(t, x, 50, point(50, 6, 3))
		quotes(t, x, 0, api.Quote{})
		quotes(t, x, -50, api.Quote{})
		quotes(t, x, 50, api.Quote{Price: 50, Qty: 3, Surplus: 3})
		adds(t, x, buys(10, 10), sells(20, 12), sells(30, 8))
		has(t, x, 0, point(8, 16, 33), point(10, 16, 33), point(12, 6, 53))
		has(t, x, 13, point(8, 16, 33), point(10, 16, 33), point(12, 6, 53), point(13, 6, 53))
		refuses(t, x, x.Take, market(api.Buy, 7, price), api.ErrNone)
		refuses(t, x, x.Take, market(api.Sell, 4, price), api.ErrNone)
		takes(t, x, market(api.Buy, 6, -price), market(api.Sell, 2, 10))
		has(t, x, 0, point(8, 10, 31), point(10, 10, 31), point(12, 0, 51))
		refuses(t, x, x.Take, market(api.Buy, 1, price), api.ErrNone)
		refuses(t, x, x.Take, market(api.Sell, 2, price), api.ErrNone)
		takes(t, x, market(api.Sell, 1, price))
		has(t, x, 0, point(8, 10, 30), point(10, 10, 30), point(12, 0, 50))
	}
}

// 7.1: whose the lots are makes no difference: neither an Id, of any number, nor a Kind but Market.
func TestWhose(t *testing.T) {
	x := new(indic.Indic)
	ids := []int{1, 1, 0, -1, math.MinInt, math.MaxInt, 2}
	for i, kind := range limits {
		adds(t, x, api.Order{Id: ids[i%len(ids)], Side: api.Buy, Kind: kind, Price: 10, Qty: 2})
		has(t, x, 0, point(10, 2+2*i, 0))
	}
	takes(t, x, api.Order{Id: 99, Side: api.Buy, Kind: api.Close, Price: 10, Qty: 2*len(limits) - 1})
	has(t, x, 0, point(10, 1, 0))
	refuses(t, x, x.Take, api.Order{Id: 1, Side: api.Buy, Kind: api.Limit, Price: 10, Qty: 2}, api.ErrNone)
	takes(t, x, api.Order{Id: -7, Side: api.Buy, Kind: 9, Price: 10, Qty: 1})
	has(t, x, 0)
	adds(t, x, api.Order{Id: 1, Side: api.Sell, Kind: api.Market, Qty: 5}, api.Order{Id: 2, Side: api.Sell, Kind: api.Market, Qty: 5})
	takes(t, x, api.Order{Id: 3, Side: api.Sell, Kind: api.Market, Qty: 9})
	has(t, x, 10, point(10, 0, 1))
}

// 7.1: prices of 1 and MaxPrice, and 1 and MaxQty lots, may be; at one price may be more lots than one order has.
func TestEnds(t *testing.T) {
	x := with(t, buys(1, 1), buys(1, api.MaxPrice), sells(1, 1), sells(1, api.MaxPrice))
	has(t, x, 0, point(1, 2, 1), point(api.MaxPrice, 1, 2))
	for i := range 5 {
		adds(t, x, buys(api.MaxQty, api.MaxPrice), sells(api.MaxQty, 1), market(api.Buy, api.MaxQty, 0))
		n := (i + 1) * api.MaxQty
		has(t, x, 0, point(1, 2+2*n, 1+n), point(api.MaxPrice, 1+2*n, 2+n))
	}
	quotes(t, x, 5, api.Quote{Price: api.MaxPrice, Qty: 2 + 5*api.MaxQty, Surplus: 5*api.MaxQty - 1})
	for i := range 5 {
		takes(t, x, buys(api.MaxQty, api.MaxPrice), sells(api.MaxQty, 1), market(api.Buy, api.MaxQty, 0))
		n := (4 - i) * api.MaxQty
		has(t, x, 0, point(1, 2+2*n, 1+n), point(api.MaxPrice, 1+2*n, 2+n))
	}
	refuses(t, x, x.Take, buys(api.MaxQty, api.MaxPrice), api.ErrNone)
	takes(t, x, buys(1, 1), buys(1, api.MaxPrice), sells(1, 1), sells(1, api.MaxPrice))
	has(t, x, 0)

	for range 10_000 {
		adds(t, x, buys(api.MaxQty, 11), market(api.Sell, api.MaxQty, 0))
	}
	has(t, x, 12, point(11, 10_000*api.MaxQty, 10_000*api.MaxQty), point(12, 0, 10_000*api.MaxQty))
}

// 7.1: ErrArg of no side, of lots or a price that may not be, ahead of ErrNone; nothing is changed.
func TestWrong(t *testing.T) {
	rich := with(t, buys(api.MaxQty, 10), sells(api.MaxQty, 10), market(api.Buy, api.MaxQty, 0), market(api.Sell, api.MaxQty, 0), buys(5, 1), sells(5, api.MaxPrice))
	for range 3 {
		adds(t, rich, buys(api.MaxQty, 10), sells(api.MaxQty, 10), market(api.Buy, api.MaxQty, 0), market(api.Sell, api.MaxQty, 0))
	}
	for _, x := range []*indic.Indic{new(indic.Indic), rich} {
		wrong := func(o api.Order) {
			t.Helper()
			refuses(t, x, x.Add, o, api.ErrArg)
			refuses(t, x, x.Take, o, api.ErrArg)
		}
		wrong(api.Order{})
		for _, kind := range append([]int{api.Market}, limits...) {
			for _, side := range noSides {
				wrong(api.Order{Side: side, Kind: kind, Price: 10, Qty: 1})
				wrong(api.Order{Side: side, Kind: kind, Price: 0, Qty: 0})
			}
			for _, side := range bothSides {
				for _, qty := range noLots {
					wrong(api.Order{Side: side, Kind: kind, Price: 10, Qty: qty})
				}
			}
		}
		for _, kind := range limits {
			for _, side := range bothSides {
				for _, price := range noPrices {
					wrong(api.Order{Side: side, Kind: kind, Price: price, Qty: 1})
				}
			}
		}
	}
}

// 7.1, Points: more is a price, if it is above 0; where lots are, it is there once; it leaves no point behind.
func TestPointsMore(t *testing.T) {
	x := with(t, buys(5, 10), sells(3, 8))
	low, high := point(8, 5, 3), point(10, 5, 3)
	for _, more := range []int{0, -1, -8, -10, math.MinInt, 8, 10} {
		has(t, x, more, low, high)
	}
	has(t, x, 1, point(1, 5, 0), low, high)
	has(t, x, 7, point(7, 5, 0), low, high)
	has(t, x, 9, low, point(9, 5, 3), high)
	for _, more := range []int{11, api.MaxPrice, api.MaxPrice + 1, math.MaxInt} {
		has(t, x, more, low, high, point(more, 0, 3))
	}
	has(t, x, 0, low, high)
}

// 7.1, Quote: around is a point too: between the others, below and above all, and of Market orders alone the only one.
func TestQuote(t *testing.T) {
	x := with(t, buys(5, 10), sells(5, 8))
	for around, price := range map[int]int{math.MinInt: 8, -1: 8, 0: 8, 1: 8, 7: 8, 8: 8, 9: 9, 10: 10, 11: 10, 500: 10, api.MaxPrice: 10, 1 << 40: 10, math.MaxInt: 10} {
		quotes(t, x, around, api.Quote{Price: price, Qty: 5})
	}
	// More would be bought: the greatest price of those that are as good; more would be sold: the least; wherever around is.
	x = with(t, buys(7, 10), sells(5, 8))
	for _, around := range []int{math.MinInt, 0, 1, 8, 9, 10, 11, math.MaxInt} {
		quotes(t, x, around, api.Quote{Price: 10, Qty: 5, Surplus: 2})
	}
	x = with(t, buys(5, 10), sells(7, 8))
	for _, around := range []int{math.MinInt, 0, 1, 8, 9, 10, 11, math.MaxInt} {
		quotes(t, x, around, api.Quote{Price: 8, Qty: 5, Surplus: -2})
	}
	// Around is above all: with Market orders it is a price as good as any, and the greatest.
	x = with(t, market(api.Buy, 7, 0), sells(5, 8))
	quotes(t, x, 0, api.Quote{Price: 8, Qty: 5, Surplus: 2})
	quotes(t, x, 7, api.Quote{Price: 8, Qty: 5, Surplus: 2})
	quotes(t, x, 12, api.Quote{Price: 12, Qty: 5, Surplus: 2})
	quotes(t, x, math.MaxInt, api.Quote{Price: math.MaxInt, Qty: 5, Surplus: 2})
	x = with(t, market(api.Sell, 7, 0), buys(5, 8))
	quotes(t, x, 0, api.Quote{Price: 8, Qty: 5, Surplus: -2})
	quotes(t, x, 3, api.Quote{Price: 3, Qty: 5, Surplus: -2})
	quotes(t, x, 12, api.Quote{Price: 8, Qty: 5, Surplus: -2})
	// One side alone trades nothing.
	quotes(t, with(t, buys(5, 10), market(api.Buy, 5, 10)), 10, api.Quote{})
	quotes(t, with(t, sells(5, 10), market(api.Sell, 5, 10)), 10, api.Quote{})
	quotes(t, with(t, buys(5, 8), sells(5, 10)), 9, api.Quote{})
}

// 7.1, Quote: around any number below 1, even where distances from it would be beyond an int, the least of prices that are alike.
func TestQuoteFarBelow(t *testing.T) {
	x := with(t, buys(5, 10), sells(5, 3))
	for _, around := range []int{0, -1, -1 << 40, math.MinInt + 11, math.MinInt + 9, math.MinInt + 5, math.MinInt + 1, math.MinInt} {
		quotes(t, x, around, api.Quote{Price: 3, Qty: 5})
	}
}

// P4: what Points hands out is the caller's, to the end of its room, and stays as it is.
func TestPointsAreTheCallers(t *testing.T) {
	x := with(t, buys(5, 10), sells(3, 8), buys(2, 9), sells(9, 11), market(api.Buy, 1, 0))
	for _, more := range []int{0, 9, 12} {
		was, other := look(x), x.Points(more)
		want := slices.Clone(other)
		one := x.Points(more)
		one = one[:cap(one)]
		for i := range one {
			one[i] = curve.Point{Price: 7, Demand: 7, Supply: 7}
		}
		if !slices.Equal(other, want) || !slices.Equal(look(x), was) {
			t.Fatalf("a list was written into: %v, want %v; %v, want %v", other, want, look(x), was)
		}
		takes(t, x, buys(5, 10), sells(3, 8))
		adds(t, x, buys(1, 3), sells(1, 9))
		if !slices.Equal(other, want) {
			t.Fatalf("a list that came out was changed: %v, want %v", other, want)
		}
		takes(t, x, buys(1, 3), sells(1, 9))
		adds(t, x, buys(5, 10), sells(3, 8))
	}
}

// P4: what one Indic has is nothing to another one.
func TestApart(t *testing.T) {
	one, other := with(t, buys(5, 10), market(api.Sell, 2, 0)), with(t, sells(3, 10))
	takes(t, one, buys(5, 10))
	adds(t, one, buys(1, 20))
	has(t, one, 0, point(20, 1, 2))
	has(t, other, 0, point(10, 0, 3))
	refuses(t, other, other.Take, market(api.Sell, 1, 0), api.ErrNone)
}
