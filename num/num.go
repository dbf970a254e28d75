// Package num: prices around prices.
package num

import "openbell/api"

// Right says whether a price may be, and how many lots.
func Right(price, qty int) (_ bool) {
	return prices(price) && within(1, api.MaxQty, qty)
}

// Band is the prices within so many ten-thousandths of a price: the least one and the greatest one, both from 1 to MaxPrice (the price itself always). ErrRange: the price may not be, or the share is not from 0 to MaxBand.
func Band(price, share int) (low, high int, err error) {
	if !prices(price) || !within(0, api.MaxBand, share) {
		return 0, 0, api.ErrRange
	}
	// The product is at most 10^10, and nothing is below 0: the division rounds down.
	d := price * share / api.MaxBand
	return max(1, price-d), min(api.MaxPrice, price+d), nil
}

// Mid is the price in the middle of two, rounded down. ErrRange.
func Mid(a, b int) (_ int, _ error) {
	if !prices(a, b) {
		return 0, api.ErrRange
	}
	return (a + b) / 2, nil
}

// prices says whether all of them may be prices.
func prices(l ...int) bool { return within(1, api.MaxPrice, l...) }

// within says whether all numbers are from least to most.
func within(least, most int, l ...int) bool {
	for _, n := range l {
		if n < least || n > most {
			return false
		}
	}
	return true
}
