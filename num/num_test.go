package num_test

import (
	"errors"
	"math"
	"testing"

	"openbell/api"
	"openbell/num"
)

// wrongPrices may not be prices; wrongShares may not be shares.
var (
	wrongPrices = []int{math.MinInt, math.MinInt + 1, -api.MaxPrice, -1, 0, api.MaxPrice + 1, 1 << 32, 1<<32 + 1, math.MaxInt - 1, math.MaxInt}
	wrongShares = []int{math.MinInt, -api.MaxBand, -1, api.MaxBand + 1, 1 << 32, 1<<32 + 1, math.MaxInt}
)

// somePrices are prices, both ends among them, and those around which rounding and the ends of Band change.
var somePrices = []int{1, 2, 3, 7, 50, 99, 100, 101, 9_999, 10_000, 10_001, 123_457, 499_999, 500_000, 500_001, 999_901, 999_998, 999_999, api.MaxPrice}

// isRange says whether an error is ErrRange, without a place.
func isRange(err error) bool {
	var at *api.At
	return api.Tell(err) == api.ErrRange && !errors.As(err, &at)
}

// 1.1, Right.
func TestRight(t *testing.T) {
	for _, c := range []struct {
		price, qty int
		want       bool
	}{
		{1, 1, true},
		{50, 7, true},
		{api.MaxPrice, 1, true},
		{1, api.MaxQty, true},
		{api.MaxPrice, api.MaxQty, true},
		{0, 1, false},
		{1, 0, false},
		{0, 0, false},
		{-1, 1, false},
		{1, -1, false},
		{-1, -1, false},
		{api.MaxPrice + 1, 1, false},
		{1, api.MaxQty + 1, false},
		{api.MaxPrice + 1, api.MaxQty + 1, false},
		{math.MinInt, 1, false},
		{1, math.MinInt, false},
		{math.MaxInt, 1, false},
		{1, math.MaxInt, false},
		{1<<32 + 1, 1, false},
		{1, 1<<32 + 1, false},
	} {
		if got := num.Right(c.price, c.qty); got != c.want {
			t.Errorf("Right(%d, %d): %v, want %v", c.price, c.qty, got, c.want)
		}
	}
}

// 1.1, Band: ordinary prices, rounding down, and both ends.
func TestBand(t *testing.T) {
	for _, c := range []struct{ price, share, low, high int }{
		{50, 1000, 45, 55}, // the document's example 1
		{100, 500, 95, 105},
		{12_345, 250, 12_037, 12_653}, // 308.625 is 308
		{50, 199, 50, 50},             // 0.995 is 0
		{50, 200, 49, 51},             // 1 is 1
		{19, 1000, 18, 20},            // 1.9 is 1
		{9_999, 1, 9_999, 9_999},
		{10_000, 1, 9_999, 10_001},
		{1, 0, 1, 1},
		{777, 0, 777, 777},
		{api.MaxPrice, 0, api.MaxPrice, api.MaxPrice},
		{1, api.MaxBand, 1, 2}, // price - d is 0
		{1, api.MaxBand - 1, 1, 1},
		{2, api.MaxBand, 1, 4},
		{2, api.MaxBand - 1, 1, 3},
		{500_000, api.MaxBand, 1, api.MaxPrice},
		{500_001, api.MaxBand, 1, api.MaxPrice}, // price + d is above MaxPrice
		{499_999, api.MaxBand, 1, 999_998},
		{api.MaxPrice, 1, 999_900, api.MaxPrice},
		{api.MaxPrice, api.MaxBand - 1, 100, api.MaxPrice},
		{api.MaxPrice, api.MaxBand, 1, api.MaxPrice},
	} {
		low, high, err := num.Band(c.price, c.share)
		if low != c.low || high != c.high || err != nil {
			t.Errorf("Band(%d, %d): %d, %d, %v, want %d, %d", c.price, c.share, low, high, err, c.low, c.high)
		}
	}
}

// 1.1, Band: ErrRange, and nothing beside it (P2).
func TestBandWrong(t *testing.T) {
	check := func(price, share int) {
		t.Helper()
		low, high, err := num.Band(price, share)
		if low != 0 || high != 0 || !isRange(err) {
			t.Errorf("Band(%d, %d): %d, %d, %v, want ErrRange alone", price, share, low, high, err)
		}
	}
	for _, price := range wrongPrices {
		for _, share := range []int{0, 1, 1000, api.MaxBand} {
			check(price, share)
		}
	}
	for _, share := range wrongShares {
		for _, price := range somePrices {
			check(price, share)
		}
		for _, price := range wrongPrices {
			check(price, share)
		}
	}
}

// 'More is wider (1)': what lies in a share's Band lies in that of each greater share; the price itself lies in each.
func TestMoreIsWider(t *testing.T) {
	for _, price := range somePrices {
		least, greatest := price, price
		for share := 0; share <= api.MaxBand; share++ {
			low, high, err := num.Band(price, share)
			if err != nil {
				t.Fatalf("Band(%d, %d): %v", price, share, err)
			}
			if low > least || high < greatest {
				t.Fatalf("Band(%d, %d): %d, %d is narrower than %d, %d", price, share, low, high, least, greatest)
			}
			if low < 1 || high > api.MaxPrice {
				t.Fatalf("Band(%d, %d): %d, %d is beyond the prices", price, share, low, high)
			}
			least, greatest = low, high
		}
		if least != 1 {
			t.Errorf("Band(%d, MaxBand) begins at %d", price, least)
		}
	}
}

// 1.1, Band, by its own words: d is the greatest number whose MaxBand-fold is at most price times share.
func TestBandByWords(t *testing.T) {
	for _, price := range somePrices {
		for share := 0; share <= api.MaxBand; share += 7 {
			d := 0
			for bit := 1 << 20; bit > 0; bit >>= 1 {
				if (d+bit)*api.MaxBand <= price*share {
					d += bit
				}
			}
			wantLow, wantHigh := price-d, price+d
			if wantLow < 1 {
				wantLow = 1
			}
			if wantHigh > api.MaxPrice {
				wantHigh = api.MaxPrice
			}
			low, high, err := num.Band(price, share)
			if low != wantLow || high != wantHigh || err != nil {
				t.Fatalf("Band(%d, %d): %d, %d, %v, want %d, %d", price, share, low, high, err, wantLow, wantHigh)
			}
		}
	}
}

// 1.1, Mid.
func TestMid(t *testing.T) {
	for _, c := range []struct{ a, b, want int }{
		{1, 1, 1},
		{1, 2, 1},
		{1, 3, 2},
		{45, 55, 50},
		{45, 56, 50},
		{1, api.MaxPrice, 500_000},
		{2, api.MaxPrice, 500_001},
		{api.MaxPrice - 1, api.MaxPrice, api.MaxPrice - 1},
		{api.MaxPrice, api.MaxPrice, api.MaxPrice},
	} {
		for _, ab := range [][2]int{{c.a, c.b}, {c.b, c.a}} {
			if got, err := num.Mid(ab[0], ab[1]); got != c.want || err != nil {
				t.Errorf("Mid(%d, %d): %d, %v, want %d", ab[0], ab[1], got, err, c.want)
			}
		}
	}
}

// 1.1, Mid: ErrRange, if either one is no price, and nothing beside it (P2).
func TestMidWrong(t *testing.T) {
	check := func(a, b int) {
		t.Helper()
		if got, err := num.Mid(a, b); got != 0 || !isRange(err) {
			t.Errorf("Mid(%d, %d): %d, %v, want ErrRange alone", a, b, got, err)
		}
	}
	for _, wrong := range wrongPrices {
		for _, price := range somePrices {
			check(wrong, price)
			check(price, wrong)
		}
		for _, other := range wrongPrices {
			check(wrong, other)
		}
	}
}
