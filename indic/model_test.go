package indic_test

import (
	"slices"
	"testing"

	"openbell/api"
	"openbell/curve"
	"openbell/indic"
)

// words does what chapter 7 says, by its words: all lots lie as orders, and are looked through anew each time.
type words []api.Order

// right says whether there is no ErrArg of an order.
func right(o api.Order) bool {
	return slices.Contains(bothSides, o.Side) && 1 <= o.Qty && o.Qty <= api.MaxQty &&
		(o.Kind == api.Market || 1 <= o.Price && o.Price <= api.MaxPrice)
}

// alike says whether two orders' lots are on one side, at one price, or both at any.
func alike(a, b api.Order) bool {
	anyA, anyB := a.Kind == api.Market, b.Kind == api.Market
	return a.Side == b.Side && anyA == anyB && (anyA || a.Price == b.Price)
}

func (w *words) add(o api.Order) api.Errno {
	if !right(o) {
		return api.ErrArg
	}
	*w = append(*w, o)
	return api.OK
}

func (w *words) take(o api.Order) api.Errno {
	if !right(o) {
		return api.ErrArg
	}
	there := 0
	for _, x := range *w {
		if alike(x, o) {
			there += x.Qty
		}
	}
	if there < o.Qty {
		return api.ErrNone
	}
	for i, x := range *w {
		if alike(x, o) {
			n := min(x.Qty, o.Qty)
			(*w)[i].Qty -= n
			o.Qty -= n
		}
	}
	*w = slices.DeleteFunc(*w, func(x api.Order) bool { return x.Qty == 0 })
	return api.OK
}

// die: numbers that look drawn, the same each time.
type die uint64

func (d *die) n(most int) int {
	*d = *d*6364136223846793005 + 1442695040888963407
	return int(uint64(*d>>33) % uint64(most))
}

// order is one of so many prices, now and then a wrong one, or one of very many lots.
func (d *die) order(prices int) api.Order {
	kinds := append([]int{api.Market, api.Market}, limits...)
	o := api.Order{Id: d.n(9), Side: 1 + d.n(2), Kind: kinds[d.n(len(kinds))], Price: 1 + d.n(prices), Qty: 1 + d.n(9)}
	switch d.n(30) {
	case 0:
		o.Side = noSides[d.n(len(noSides))]
	case 1:
		o.Price = noPrices[d.n(len(noPrices))]
	case 2:
		o.Qty = noLots[d.n(len(noLots))]
	case 3, 4:
		o.Qty = api.MaxQty - d.n(2)
	}
	return o
}

// agree holds an Indic against all lots anew.
func agree(t *testing.T, x *indic.Indic, w words, more int) {
	t.Helper()
	has(t, x, more, curve.Of(w, more)...)
	quotes(t, x, more, curve.Choose(curve.Of(w, more), more))
}

// 7.1, and 'kept up order by order it is what it would be of all anew (7)': of few prices and of many, with few lots and with many.
func TestOfAllAnew(t *testing.T) {
	d := die(9)
	for range 120 {
		var x indic.Indic
		var w words
		prices, lean := 1+d.n(40), 2+d.n(3)
		for range 150 {
			o := d.order(prices)
			if d.n(lean) > 0 {
				is(t, "Add", x.Add(o), w.add(o))
			} else {
				if len(w) > 0 && d.n(3) > 0 { // lots that are there, or of some of them more or less
					l := w[d.n(len(w))]
					l.Qty += d.n(3) - 1
					o = l
				}
				is(t, "Take", x.Take(o), w.take(o))
			}
			agree(t, &x, w, 0)
			agree(t, &x, w, d.n(prices+6)-3)
		}
	}
}

// 7.1: prices that come in any order stand rising, and each is found again, until none is left.
func TestManyPrices(t *testing.T) {
	d := die(10)
	for range 8 {
		var x indic.Indic
		var w words
		var prices []int
		for price := 2; price <= 600; price += 1 + d.n(4) {
			prices = slices.Insert(prices, d.n(len(prices)+1), price)
		}
		for _, price := range prices {
			o := api.Order{Side: 1 + d.n(2), Kind: api.Limit, Price: price, Qty: 1 + d.n(9)}
			is(t, "Add", x.Add(o), w.add(o))
			agree(t, &x, w, d.n(700))
		}
		for len(w) > 0 {
			o := w[d.n(len(w))]
			is(t, "Take", x.Take(o), w.take(o))
			agree(t, &x, w, d.n(700))
		}
		has(t, &x, 0)
	}
}

// 'No price does more' holds of what is kept up, too: at no price at all more is traded than at the quoted one.
func TestNoPriceDoesMore(t *testing.T) {
	d := die(11)
	for range 400 {
		var x indic.Indic
		for range d.n(20) {
			o := d.order(12)
			if x.Add(o) == nil && d.n(3) == 0 {
				takes(t, &x, o)
			}
		}
		q := x.Quote(1 + d.n(14))
		for price := 1; price <= 20; price++ {
			for _, p := range x.Points(price) {
				if min(p.Demand, p.Supply) > q.Qty {
					t.Fatalf("quoted was %v, but at %v more is traded", q, p)
				}
			}
		}
	}
}
