package bands_test

import (
	"testing"

	"openbell/api"
)

// words does what chapter 5 says, by its words: it keeps what was told, and looks for a band's prices one by one.
type words struct {
	static, dynamic int
	told            []told
}

// told is a price, and whether both are to be it, or Last alone.
type told struct {
	price int
	both  bool
}

// last and anchor are the newest price told, and the newest one told of both.
func (w words) last() int { return w.told[len(w.told)-1].price }

func (w words) anchor() int {
	i := len(w.told) - 1
	for !w.told[i].both {
		i--
	}
	return w.told[i].price
}

// lies says whether a price is one of a band's: no farther than the share of the price in the middle, as a whole number.
func lies(x, price, share int) bool {
	far := max(x-price, price-x)
	return x >= 1 && x <= api.MaxPrice && far*api.MaxBand <= price*share
}

// ends are the least and the greatest price that lie in a band, walked to one by one.
func ends(price, share int) (low, high int) {
	low, high = price, price
	for lies(low-1, price, share) {
		low--
	}
	for lies(high+1, price, share) {
		high++
	}
	return low, high
}

func (w words) looks() looks {
	l := looks{anchor: w.anchor(), last: w.last()}
	l.low, l.high = ends(l.anchor, w.static)
	l.dynLow, l.dynHigh = ends(l.last, w.dynamic)
	return l
}

// tell takes a price that is Right.
func (w *words) tell(price int, both bool) api.Errno {
	if price < 1 || price > api.MaxPrice {
		return api.ErrRange
	}
	w.told = append(w.told, told{price, both})
	return api.OK
}

// die: numbers that look drawn, the same each time.
type die uint64

func (d *die) n(most int) int {
	*d = *d*6364136223846793005 + 1442695040888963407
	return int(uint64(*d>>33) % uint64(most))
}

// near is a price near another one, on the edge of a band perhaps, now and then far away or a wrong one.
func (d *die) near(l looks) int {
	edges := []int{l.low, l.high, l.dynLow, l.dynHigh, l.anchor, l.last}
	switch d.n(12) {
	case 0:
		return noPrices[d.n(len(noPrices))]
	case 1:
		return 1 + d.n(400)
	}
	return edges[d.n(len(edges))] + d.n(3) - 1
}

// 5.1, against its words, with low prices and with those at the upper end.
func TestByWords(t *testing.T) {
	d := die(5)
	shares := []int{0, 1, api.MaxBand - 1, api.MaxBand}
	for range 300 {
		w := words{static: d.n(3000), dynamic: d.n(1500)}
		if d.n(4) == 0 {
			w.static = shares[d.n(len(shares))]
		}
		if d.n(4) == 0 {
			w.dynamic = shares[d.n(len(shares))]
		}
		first := 1 + d.n(300)
		if d.n(6) == 0 {
			first, w.static, w.dynamic = api.MaxPrice-d.n(300), w.static%40, w.dynamic%40
		}
		b := around(t, w.static, w.dynamic, first)
		w.tell(first, true)
		for range 40 {
			l := w.looks()
			are(t, "by words", b, l)
			x := d.near(l)
			calm := lies(x, l.anchor, w.static)
			asks(t, b, x, calm, calm && lies(x, l.last, w.dynamic))
			switch d.n(4) {
			case 0:
				is(t, "Trade", b.Trade(x), w.tell(x, false))
			case 1:
				is(t, "Fix", b.Fix(x), w.tell(x, true))
			}
		}
	}
}
