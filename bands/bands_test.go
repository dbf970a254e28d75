package bands_test

import (
	"errors"
	"fmt"
	"math"
	"testing"

	"openbell/api"
	"openbell/bands"
)

// noPrices are not Right; noShares are below 0 or above MaxBand.
var (
	noPrices = []int{math.MinInt, -1 << 32, -api.MaxPrice, -1, 0, api.MaxPrice + 1, 1 << 32, 1<<32 + 1, 1<<32 + 100, math.MaxInt - 1, math.MaxInt}
	noShares = []int{math.MinInt, -1 << 32, -api.MaxBand, -1, api.MaxBand + 1, 1 << 32, 1<<32 + 1, math.MaxInt - 1, math.MaxInt}
)

// is checks that an error is a plain Errno, without a place (P3).
func is(t *testing.T, what string, err error, want api.Errno) {
	t.Helper()
	var at *api.At
	if api.Tell(err) != want || errors.As(err, &at) {
		t.Fatalf("%s: error %v (a place: %v), want %v", what, err, at, want)
	}
}

// around is bands that may be.
func around(t *testing.T, static, dynamic, price int) *bands.Bands {
	t.Helper()
	b, err := bands.New(static, dynamic, price)
	is(t, fmt.Sprintf("New(%d, %d, %d)", static, dynamic, price), err, api.OK)
	if b == nil {
		t.Fatalf("New(%d, %d, %d): no bands", static, dynamic, price)
	}
	return b
}

// looks is what bands tell without being asked about a price: both prices, and both bands.
type looks struct {
	anchor, last    int
	low, high       int // of Static
	dynLow, dynHigh int // of Dynamic
}

func look(b *bands.Bands) looks {
	l := looks{anchor: b.Anchor(), last: b.Last()}
	l.low, l.high = b.Static()
	l.dynLow, l.dynHigh = b.Dynamic()
	return l
}

// are checks what bands tell.
func are(t *testing.T, what string, b *bands.Bands, want looks) {
	t.Helper()
	if got := look(b); got != want {
		t.Fatalf("%s: %+v, want %+v", what, got, want)
	}
}

// asks checks Calm and Allows of a price, and that to ask changes nothing.
func asks(t *testing.T, b *bands.Bands, price int, calm, allows bool) {
	t.Helper()
	was := look(b)
	if got := b.Calm(price); got != calm {
		t.Fatalf("Calm(%d): %v in %+v", price, got, was)
	}
	if got := b.Allows(price); got != allows {
		t.Fatalf("Allows(%d): %v in %+v", price, got, was)
	}
	are(t, "asked about a price", b, was)
}

// trades and fixes tell of prices that may be.
func trades(t *testing.T, b *bands.Bands, price int) {
	t.Helper()
	is(t, fmt.Sprintf("Trade(%d)", price), b.Trade(price), api.OK)
}

func fixes(t *testing.T, b *bands.Bands, price int) {
	t.Helper()
	is(t, fmt.Sprintf("Fix(%d)", price), b.Fix(price), api.OK)
}

// 5.1, New: both prices are the one told, and each band has its own share.
func TestNew(t *testing.T) {
	for _, c := range []struct {
		static, dynamic, price int
		want                   looks
	}{
		{1000, 500, 50, looks{50, 50, 45, 55, 48, 52}}, // the document's example 1; 2.5 is 2
		{500, 1000, 50, looks{50, 50, 48, 52, 45, 55}},
		{200, 100, 12_345, looks{12_345, 12_345, 12_099, 12_591, 12_222, 12_468}},
		{0, 0, 777, looks{777, 777, 777, 777, 777, 777}},
		{0, api.MaxBand, 100, looks{100, 100, 100, 100, 1, 200}},
		{api.MaxBand, 0, 100, looks{100, 100, 1, 200, 100, 100}},
		{api.MaxBand, api.MaxBand, 100, looks{100, 100, 1, 200, 1, 200}},
		{0, 0, 1, looks{1, 1, 1, 1, 1, 1}},
		{api.MaxBand - 1, api.MaxBand, 1, looks{1, 1, 1, 1, 1, 2}},
		{api.MaxBand, api.MaxBand - 1, 1, looks{1, 1, 1, 2, 1, 1}},
		{0, 0, api.MaxPrice, looks{api.MaxPrice, api.MaxPrice, api.MaxPrice, api.MaxPrice, api.MaxPrice, api.MaxPrice}},
		{1, api.MaxBand, api.MaxPrice, looks{api.MaxPrice, api.MaxPrice, 999_900, api.MaxPrice, 1, api.MaxPrice}},
		{api.MaxBand, 1, api.MaxPrice, looks{api.MaxPrice, api.MaxPrice, 1, api.MaxPrice, 999_900, api.MaxPrice}},
	} {
		are(t, fmt.Sprintf("New(%d, %d, %d)", c.static, c.dynamic, c.price), around(t, c.static, c.dynamic, c.price), c.want)
	}
}

// 5.1, New: ErrRange of a price, or of either share, and no bands beside it (P2).
func TestNewWrong(t *testing.T) {
	refuses := func(static, dynamic, price int) {
		t.Helper()
		what := fmt.Sprintf("New(%d, %d, %d)", static, dynamic, price)
		b, err := bands.New(static, dynamic, price)
		is(t, what, err, api.ErrRange)
		if b != nil {
			t.Fatalf("%s: bands beside ErrRange", what)
		}
	}
	shares := []int{0, 1, 1000, api.MaxBand}
	for _, price := range noPrices {
		for _, s := range shares {
			for _, y := range shares {
				refuses(s, y, price)
			}
		}
		for _, no := range noShares {
			refuses(no, no, price)
		}
	}
	for _, no := range noShares {
		for _, price := range []int{1, 100, api.MaxPrice} {
			for _, share := range shares {
				refuses(no, share, price)
				refuses(share, no, price)
			}
			for _, other := range noShares {
				refuses(no, other, price)
			}
		}
	}
}

// 5.1, Calm and Allows: on a band's edge, and just beside it, with either band within the other one.
func TestEdges(t *testing.T) {
	wide := around(t, 1000, 500, 100) // from 90 to 110, and from 95 to 105
	narrow := around(t, 500, 1000, 100)
	for _, c := range []struct {
		price                        int
		wideCalm, narrowCalm, allows bool
	}{
		{1, false, false, false},
		{89, false, false, false},
		{90, true, false, false}, // in Static but not in Dynamic, or the other way round
		{94, true, false, false},
		{95, true, true, true},
		{100, true, true, true},
		{105, true, true, true},
		{106, true, false, false},
		{110, true, false, false},
		{111, false, false, false},
		{api.MaxPrice, false, false, false},
	} {
		asks(t, wide, c.price, c.wideCalm, c.allows)
		asks(t, narrow, c.price, c.narrowCalm, c.allows)
	}
}

// 5.1: bands of no share hold their price alone; those of MaxBand go from 1 to twice their price, or to MaxPrice.
func TestShareEdges(t *testing.T) {
	none := around(t, 0, 0, 100)
	asks(t, none, 99, false, false)
	asks(t, none, 100, true, true)
	asks(t, none, 101, false, false)
	for _, c := range []struct{ price, high int }{{1, 2}, {100, 200}, {500_000, api.MaxPrice}, {500_001, api.MaxPrice}, {api.MaxPrice, api.MaxPrice}} {
		most := around(t, api.MaxBand, api.MaxBand, c.price)
		asks(t, most, 0, false, false)
		asks(t, most, 1, true, true)
		asks(t, most, c.high, true, true)
		asks(t, most, c.high+1, false, false)
	}
	least, greatest := around(t, 0, 0, 1), around(t, 0, 0, api.MaxPrice)
	asks(t, least, 0, false, false)
	asks(t, least, 1, true, true)
	asks(t, least, 2, false, false)
	asks(t, greatest, api.MaxPrice-1, false, false)
	asks(t, greatest, api.MaxPrice, true, true)
	asks(t, greatest, api.MaxPrice+1, false, false)
}

// 5.1, Trade: Last is the price, and Dynamic goes with it; Anchor and Static stay.
func TestTrade(t *testing.T) {
	b := around(t, 1000, 500, 100)
	trades(t, b, 108)
	are(t, "Trade", b, looks{100, 108, 90, 110, 103, 113})
	asks(t, b, 102, true, false)
	asks(t, b, 103, true, true)
	asks(t, b, 110, true, true)
	asks(t, b, 111, false, false) // in Dynamic but not in Static
	asks(t, b, 113, false, false)
	asks(t, b, 114, false, false)
	trades(t, b, 108)
	are(t, "Trade again", b, looks{100, 108, 90, 110, 103, 113})
	trades(t, b, 92)
	are(t, "Trade back", b, looks{100, 92, 90, 110, 88, 96})
	asks(t, b, 88, false, false)
	asks(t, b, 90, true, true)
	asks(t, b, 97, true, false)
	trades(t, b, 1)
	are(t, "Trade at 1", b, looks{100, 1, 90, 110, 1, 1})
	asks(t, b, 1, false, false)
	asks(t, b, 100, true, false)
	trades(t, b, api.MaxPrice) // Trade names no band: any price that is Right is taken
	are(t, "Trade at MaxPrice", b, looks{100, api.MaxPrice, 90, 110, 950_000, api.MaxPrice})
	asks(t, b, api.MaxPrice, false, false)
}

// 5.1, Fix: both prices are that, and both bands go with it, wherever Last was.
func TestFix(t *testing.T) {
	b := around(t, 1000, 500, 100)
	fixes(t, b, 200)
	are(t, "Fix", b, looks{200, 200, 180, 220, 190, 210})
	asks(t, b, 100, false, false)
	asks(t, b, 180, true, false)
	asks(t, b, 190, true, true)
	trades(t, b, 215)
	are(t, "Trade behind Fix", b, looks{200, 215, 180, 220, 205, 225})
	fixes(t, b, 40)
	are(t, "Fix behind Trade", b, looks{40, 40, 36, 44, 38, 42})
	trades(t, b, 44)
	fixes(t, b, 40)
	are(t, "Fix at Anchor", b, looks{40, 40, 36, 44, 38, 42})
	fixes(t, b, 1)
	are(t, "Fix at 1", b, looks{1, 1, 1, 1, 1, 1})
	fixes(t, b, api.MaxPrice)
	are(t, "Fix at MaxPrice", b, looks{api.MaxPrice, api.MaxPrice, 900_000, api.MaxPrice, 950_000, api.MaxPrice})
}

// 5.1: of a price that is not Right nothing is true, and what was there stays.
func TestWrongPrices(t *testing.T) {
	for _, share := range []int{0, 1000, api.MaxBand} {
		for _, price := range []int{1, 100, api.MaxPrice} {
			b := around(t, share, api.MaxBand-share, price)
			trades(t, b, 70)
			was := look(b)
			for _, no := range noPrices {
				asks(t, b, no, false, false)
				is(t, fmt.Sprintf("Trade(%d)", no), b.Trade(no), api.ErrRange)
				are(t, "Trade refused", b, was)
				is(t, fmt.Sprintf("Fix(%d)", no), b.Fix(no), api.ErrRange)
				are(t, "Fix refused", b, was)
			}
			fixes(t, b, price)
			are(t, "Fix behind refusals", b, look(around(t, share, api.MaxBand-share, price)))
		}
	}
}

// P4: what one has is nothing to another one.
func TestBandsAreApart(t *testing.T) {
	one, other := around(t, 1000, 500, 100), around(t, 1000, 500, 100)
	was := look(other)
	trades(t, one, 105)
	fixes(t, one, 300)
	around(t, 7, 8, 9)
	are(t, "another one", other, was)
	are(t, "one", one, looks{300, 300, 270, 330, 285, 315})
}
