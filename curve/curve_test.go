package curve_test

import (
	"fmt"
	"math"
	"slices"
	"testing"

	"openbell/api"
	"openbell/curve"
)

const far = 1 << 40 // the greatest number of a point of which something is promised

// buys, sells and market are orders; none has an Id, for none needs one.
func buys(qty, price int) api.Order {
	return api.Order{Side: api.Buy, Kind: api.Limit, Price: price, Qty: qty}
}

func sells(qty, price int) api.Order {
	return api.Order{Side: api.Sell, Kind: api.Limit, Price: price, Qty: qty}
}

func market(side, qty, price int) api.Order {
	return api.Order{Side: side, Kind: api.Market, Price: price, Qty: qty}
}

// roomy is a list with room behind its end, in which something stands, and all of it as it is now.
func roomy[T any](l []T, behind T) (list, whole, was []T) {
	whole = slices.Concat(l, []T{behind, behind, behind})
	return whole[:len(l)], whole, slices.Clone(whole)
}

// of checks Of, and that what it was handed stays as it was (P4).
func of(t *testing.T, l []api.Order, more int, want ...curve.Point) {
	t.Helper()
	list, whole, was := roomy(l, api.Order{Id: -7, Side: api.Buy, Kind: api.Limit, Price: 77, Qty: 7})
	if got := curve.Of(list, more); !slices.Equal(got, want) {
		t.Fatalf("Of(%v, %d): %v, want %v", l, more, got, want)
	}
	if !slices.Equal(whole, was) {
		t.Fatalf("Of(%v, %d): it was handed %v, it has %v", l, more, was, whole)
	}
}

// chooses checks Choose, and that what it was handed stays as it was (P4).
func chooses(t *testing.T, l []curve.Point, around int, want api.Quote) {
	t.Helper()
	list, whole, was := roomy(l, curve.Point{Price: around, Demand: far, Supply: far})
	if got := curve.Choose(list, around); got != want {
		t.Fatalf("Choose(%v, %d): %v, want %v", l, around, got, want)
	}
	if !slices.Equal(whole, was) {
		t.Fatalf("Choose(%v, %d): it was handed %v, it has %v", l, around, was, whole)
	}
}

// 6.1: the document's example 6, and points rising, each once, however the orders come.
func TestOf(t *testing.T) {
	of(t, []api.Order{buys(5, 10), sells(3, 8)}, 9, curve.Point{8, 5, 3}, curve.Point{9, 5, 3}, curve.Point{10, 5, 3})
	l := []api.Order{sells(4, 12), buys(1, 12), sells(2, 10), buys(3, 11), buys(5, 10), sells(6, 11), buys(7, 10), sells(8, 13)}
	want := []curve.Point{{10, 16, 2}, {11, 4, 8}, {12, 1, 12}, {13, 0, 20}}
	of(t, l, 0, want...)
	slices.Reverse(l)
	of(t, l, 0, want...)
	slices.SortFunc(l, func(a, b api.Order) int { return a.Price - b.Price })
	of(t, l, 0, want...)
}

// 6.1: of no orders there is a point at more alone.
func TestOfNoOrders(t *testing.T) {
	for _, l := range [][]api.Order{nil, {}} {
		of(t, l, 0)
		of(t, l, -1)
		of(t, l, math.MinInt)
		for _, more := range []int{1, 100, api.MaxPrice, api.MaxPrice + 1, math.MaxInt} {
			of(t, l, more, curve.Point{Price: more})
		}
	}
}

// 6.1: more is a price, if it is above 0; where an order names it, it is there once.
func TestOfMore(t *testing.T) {
	l := []api.Order{buys(5, 10), sells(3, 8)}
	low, high := curve.Point{8, 5, 3}, curve.Point{10, 5, 3}
	for _, more := range []int{0, -1, -8, -10, math.MinInt, 8, 10} {
		of(t, l, more, low, high)
	}
	of(t, l, 1, curve.Point{1, 5, 0}, low, high)
	of(t, l, 7, curve.Point{7, 5, 0}, low, high)
	of(t, l, 11, low, high, curve.Point{11, 0, 3})
	of(t, l, math.MaxInt, low, high, curve.Point{math.MaxInt, 0, 3})
}

// 6.1: at a price of both sides both are in; on one side all of a price are.
func TestOfSamePrice(t *testing.T) {
	of(t, []api.Order{buys(5, 10), sells(3, 10)}, 0, curve.Point{10, 5, 3})
	of(t, []api.Order{sells(3, 10), buys(5, 10)}, 10, curve.Point{10, 5, 3})
	of(t, []api.Order{buys(5, 10), buys(2, 10), sells(3, 10), sells(4, 10), sells(1, 10)}, 0, curve.Point{10, 7, 8})
	of(t, []api.Order{buys(5, 10), buys(5, 10)}, 11, curve.Point{10, 10, 0}, curve.Point{11, 0, 0})
	of(t, []api.Order{sells(5, 10), sells(5, 10)}, 9, curve.Point{9, 0, 0}, curve.Point{10, 0, 10})
}

// 6.1: a Market order is at every point, and makes none, whatever Price it has.
func TestOfMarket(t *testing.T) {
	for _, price := range []int{math.MinInt, -1, 0, 1, 9, 10, 11, math.MaxInt} {
		alone := []api.Order{market(api.Buy, 5, price), market(api.Sell, 3, price), market(api.Buy, 1, price)}
		of(t, alone, 0)
		of(t, alone, -4)
		of(t, alone, 50, curve.Point{50, 6, 3})
		among := append(alone, buys(10, 10), sells(20, 12), sells(30, 8))
		of(t, among, 0, curve.Point{8, 16, 33}, curve.Point{10, 16, 33}, curve.Point{12, 6, 53})
		of(t, among, 13, curve.Point{8, 16, 33}, curve.Point{10, 16, 33}, curve.Point{12, 6, 53}, curve.Point{13, 6, 53})
	}
}

// 6.1: each Kind but Market has its Price, and any Price makes a point: 6.1 bounds neither.
func TestOfKindsAndPrices(t *testing.T) {
	for _, kind := range []int{api.Limit, api.Auction, api.Close, 0, -1, 5, 9, math.MinInt, math.MaxInt} {
		l := []api.Order{buys(5, 10), sells(3, 8)}
		for i := range l {
			l[i].Kind = kind
		}
		of(t, l, 0, curve.Point{8, 5, 3}, curve.Point{10, 5, 3})
	}
	l := []api.Order{buys(1, math.MinInt), sells(2, math.MinInt), buys(4, -1), sells(8, 0), buys(16, api.MaxPrice+1), sells(32, math.MaxInt), buys(64, math.MaxInt)}
	of(t, l, 0, curve.Point{math.MinInt, 85, 2}, curve.Point{-1, 84, 2}, curve.Point{0, 80, 10}, curve.Point{api.MaxPrice + 1, 80, 10}, curve.Point{math.MaxInt, 64, 42})
}

// 6.1: of an order of no side, or of lots that may not be, there is neither a point nor a lot.
func TestOfNothing(t *testing.T) {
	var none []api.Order
	for _, kind := range []int{api.Limit, api.Market, api.Auction, api.Close, 0, 9} {
		for _, side := range []int{math.MinInt, -1, 0, 3, 4, 1<<32 + 1, math.MaxInt} {
			none = append(none, api.Order{Side: side, Kind: kind, Price: 9, Qty: 5}, api.Order{Side: side, Kind: kind, Price: 10, Qty: 5})
		}
		for _, qty := range []int{math.MinInt, -api.MaxQty, -1, 0, api.MaxQty + 1, 1<<32 + 1, math.MaxInt} {
			for side := api.Buy; side <= api.Sell; side++ {
				none = append(none, api.Order{Side: side, Kind: kind, Price: 9, Qty: qty}, api.Order{Side: side, Kind: kind, Price: 10, Qty: qty})
			}
		}
	}
	of(t, none, 0)
	of(t, none, 9, curve.Point{Price: 9})
	of(t, slices.Concat([]api.Order{buys(5, 10)}, none, []api.Order{sells(3, 8)}), 0, curve.Point{8, 5, 3}, curve.Point{10, 5, 3})
	for _, o := range none {
		of(t, []api.Order{o}, 0)
	}
}

// 6.1: 1 and MaxQty lots are lots; many of them are as many as they are.
func TestOfLots(t *testing.T) {
	of(t, []api.Order{buys(1, 10), sells(api.MaxQty, 10)}, 0, curve.Point{10, 1, api.MaxQty})
	of(t, []api.Order{buys(api.MaxQty, 10), sells(1, 10)}, 0, curve.Point{10, api.MaxQty, 1})
	var l []api.Order
	for i := range 10_000 {
		l = append(l, buys(api.MaxQty, 10+i%2), market(api.Sell, api.MaxQty, 0))
	}
	of(t, l, 12, curve.Point{10, 10_000 * api.MaxQty, 10_000 * api.MaxQty}, curve.Point{11, 5_000 * api.MaxQty, 10_000 * api.MaxQty}, curve.Point{12, 0, 10_000 * api.MaxQty})
}

// P4: what comes out is the caller's, and the same each time.
func TestOfIsFresh(t *testing.T) {
	l := []api.Order{buys(5, 10), sells(3, 8), buys(2, 9), sells(9, 11)}
	one, other := curve.Of(l, 12), curve.Of(l, 12)
	want := slices.Clone(other)
	one = append(one[:0], make([]curve.Point, cap(one))...)
	if !slices.Equal(other, want) || !slices.Equal(curve.Of(l, 12), want) {
		t.Fatalf("%v: %v, and again %v, beside %v", want, other, curve.Of(l, 12), one)
	}
}

// 6.2: the document's example 6, and most traded ahead of all else.
func TestChooseMost(t *testing.T) {
	chooses(t, []curve.Point{{8, 5, 3}, {9, 5, 3}, {10, 5, 3}}, 9, api.Quote{Price: 10, Qty: 3, Surplus: 2})
	chooses(t, []curve.Point{{10, 1, 1}}, 500, api.Quote{Price: 10, Qty: 1})
	for place := range 3 { // wherever it stands: farther from around, and more is left there
		l := []curve.Point{{10, 4, 4}, {10, 4, 4}, {10, 4, 4}}
		l[place] = curve.Point{99, 5, 80}
		chooses(t, l, 10, api.Quote{Price: 99, Qty: 5, Surplus: -75})
		l[place] = curve.Point{1, 80, 5}
		chooses(t, l, 10, api.Quote{Price: 1, Qty: 5, Surplus: 75})
	}
}

// 6.2: no points, and points at which less than 1 is traded, are nothing.
func TestChooseNothing(t *testing.T) {
	for _, around := range []int{-far, -1, 0, 10, far} {
		chooses(t, nil, around, api.Quote{})
		chooses(t, []curve.Point{}, around, api.Quote{})
		for _, least := range []int{0, -1, -7, -far} {
			for _, other := range []int{least, 0, 1, 9, far} {
				chooses(t, []curve.Point{{10, least, other}}, around, api.Quote{})
				chooses(t, []curve.Point{{10, other, least}}, around, api.Quote{})
				chooses(t, []curve.Point{{10, other, least}, {11, least, other}, {9, least, least}}, around, api.Quote{})
				chooses(t, []curve.Point{{10, other, least}, {11, 1, 2}, {9, least, other}}, around, api.Quote{Price: 11, Qty: 1, Surplus: -1})
			}
		}
	}
}

// 6.2: of those at which as much is traded, those at which least is left, on whichever side.
func TestChooseLeast(t *testing.T) {
	for place := range 3 {
		l := []curve.Point{{10, 5, 9}, {11, 9, 5}, {12, 5, 9}}
		l[place] = curve.Point{40, 5, 8}
		chooses(t, l, 11, api.Quote{Price: 40, Qty: 5, Surplus: -3})
		l[place] = curve.Point{40, 8, 5}
		chooses(t, l, 11, api.Quote{Price: 40, Qty: 5, Surplus: 3})
		l[place] = curve.Point{40, 5, 5}
		chooses(t, l, 11, api.Quote{Price: 40, Qty: 5})
	}
	// A point at which less is traded has no say, though nothing is left at it.
	chooses(t, []curve.Point{{11, 4, 4}, {40, 5, 8}}, 11, api.Quote{Price: 40, Qty: 5, Surplus: -3})
}

// 6.2: if Demand is above Supply at each of them the greatest Price, if it is below at each the least, wherever around is.
func TestChooseOneSided(t *testing.T) {
	above := []curve.Point{{10, 7, 5}, {30, 7, 5}, {20, 7, 5}}
	below := []curve.Point{{20, 5, 7}, {10, 5, 7}, {30, 5, 7}}
	for _, around := range []int{-far, 0, 10, 20, 30, far} {
		chooses(t, above, around, api.Quote{Price: 30, Qty: 5, Surplus: 2})
		chooses(t, below, around, api.Quote{Price: 10, Qty: 5, Surplus: -2})
		// Those at which more is left, or less is traded, have no say in it.
		chooses(t, append([]curve.Point{{25, 5, 8}, {26, 4, 4}, {27, 4, 6}}, above...), around, api.Quote{Price: 30, Qty: 5, Surplus: 2})
		chooses(t, append([]curve.Point{{25, 8, 5}, {26, 4, 4}, {27, 6, 4}}, below...), around, api.Quote{Price: 10, Qty: 5, Surplus: -2})
	}
}

// 6.2: of both signs, or with none left, the Price nearest to around; of two as near the lesser one.
func TestChooseNearest(t *testing.T) {
	for _, c := range []struct {
		l    []curve.Point
		left map[int]int // by Price
	}{
		{[]curve.Point{{10, 7, 5}, {20, 5, 7}, {30, 7, 5}}, map[int]int{10: 2, 20: -2, 30: 2}},
		{[]curve.Point{{30, 5, 7}, {20, 5, 7}, {10, 7, 5}}, map[int]int{10: 2, 20: -2, 30: -2}},
		{[]curve.Point{{20, 5, 5}, {30, 5, 5}, {10, 5, 5}}, map[int]int{}},
	} {
		for around, price := range map[int]int{-far: 10, 0: 10, 10: 10, 14: 10, 15: 10, 16: 20, 20: 20, 24: 20, 25: 20, 26: 30, 30: 30, 31: 30, far: 30} {
			l := slices.Clone(c.l)
			chooses(t, l, around, api.Quote{Price: price, Qty: 5, Surplus: c.left[price]})
			slices.Reverse(l)
			chooses(t, l, around, api.Quote{Price: price, Qty: 5, Surplus: c.left[price]})
		}
	}
	chooses(t, []curve.Point{{-10, 5, 5}, {10, 5, 5}}, 0, api.Quote{Price: -10, Qty: 5})
	chooses(t, []curve.Point{{10, 5, 5}, {-10, 5, 5}}, 0, api.Quote{Price: -10, Qty: 5})
}

// 6.2: of one Price twice the first one, told apart by what is left there.
func TestChooseFirst(t *testing.T) {
	more, less := curve.Point{10, 7, 5}, curve.Point{10, 5, 7}
	for _, around := range []int{3, 10, 40} {
		chooses(t, []curve.Point{more, less}, around, api.Quote{Price: 10, Qty: 5, Surplus: 2})
		chooses(t, []curve.Point{less, more}, around, api.Quote{Price: 10, Qty: 5, Surplus: -2})
		chooses(t, []curve.Point{less, less, more, more}, around, api.Quote{Price: 10, Qty: 5, Surplus: -2})
		chooses(t, []curve.Point{more, more}, around, api.Quote{Price: 10, Qty: 5, Surplus: 2})
	}
	// Both as near as another Price is: the lesser one's first.
	chooses(t, []curve.Point{{14, 5, 7}, less, more}, 12, api.Quote{Price: 10, Qty: 5, Surplus: -2})
	chooses(t, []curve.Point{{14, 5, 7}, more, less}, 12, api.Quote{Price: 10, Qty: 5, Surplus: 2})
}

// 6.2: numbers of either sign, up to 2^40.
func TestChooseFar(t *testing.T) {
	chooses(t, []curve.Point{{far, far, far}}, -far, api.Quote{Price: far, Qty: far})
	chooses(t, []curve.Point{{-far, far, far}, {far, far, far}}, 0, api.Quote{Price: -far, Qty: far})
	chooses(t, []curve.Point{{-far, far, far}, {far, far, far}}, 1, api.Quote{Price: far, Qty: far})
	chooses(t, []curve.Point{{far, far, far}, {-far, far, far}}, far, api.Quote{Price: far, Qty: far})
	chooses(t, []curve.Point{{far, far, far}, {-far, far, far}}, -far, api.Quote{Price: -far, Qty: far})
	chooses(t, []curve.Point{{-far, far, 1}, {far, far, 1}}, -far, api.Quote{Price: far, Qty: 1, Surplus: far - 1})
	chooses(t, []curve.Point{{-far, 1, far}, {far, 1, far}}, far, api.Quote{Price: -far, Qty: 1, Surplus: 1 - far})
	chooses(t, []curve.Point{{0, far, -far}, {5, -far, far}, {9, 1, 1}}, 0, api.Quote{Price: 9, Qty: 1})
	chooses(t, []curve.Point{{0, far, -far}, {5, -far, far}, {9, -far, -far}}, 0, api.Quote{})
}

// P1: beyond what is promised a call still ends, and tells the same each time.
func TestChooseBeyond(t *testing.T) {
	ends := []int{math.MinInt, math.MinInt + 1, -1, 0, 1, math.MaxInt - 1, math.MaxInt}
	var l []curve.Point
	for _, price := range ends {
		for _, demand := range ends {
			for _, supply := range ends {
				l = append(l, curve.Point{price, demand, supply})
			}
		}
	}
	for _, around := range ends {
		for n := range len(l) {
			if one, other := curve.Choose(l[n:], around), curve.Choose(l[n:], around); one != other {
				t.Fatal(fmt.Sprint("Choose from ", n, " on, around ", around, ": ", one, ", then ", other))
			}
		}
	}
}
