package curve_test

import (
	"slices"
	"testing"

	"openbell/api"
	"openbell/curve"
)

// at is the point of orders at any price at all, by the words of 6.1: each order is asked.
func at(l []api.Order, price int) curve.Point {
	p := curve.Point{Price: price}
	for _, o := range l {
		switch {
		case !lies(o):
		case o.Side == api.Buy && (o.Kind == api.Market || o.Price >= price):
			p.Demand += o.Qty
		case o.Side == api.Sell && (o.Kind == api.Market || o.Price <= price):
			p.Supply += o.Qty
		}
	}
	return p
}

// lies says whether an order is more than nothing.
func lies(o api.Order) bool {
	return (o.Side == api.Buy || o.Side == api.Sell) && o.Qty >= 1 && o.Qty <= api.MaxQty
}

// points are those of orders whose prices are from least to most, looked for price by price.
func points(l []api.Order, more, least, most int) []curve.Point {
	var out []curve.Point
	for price := least; price <= most; price++ {
		names := func(o api.Order) bool { return lies(o) && o.Kind != api.Market && o.Price == price }
		if price > 0 && price == more || slices.ContainsFunc(l, names) {
			out = append(out, at(l, price))
		}
	}
	return out
}

// better says whether the words of 6.2 put one point ahead of another one; sign is that of what is left, if it is one for all that matter.
func better(p, q curve.Point, sign, around int) bool {
	if a, b := min(p.Demand, p.Supply), min(q.Demand, q.Supply); a != b {
		return a > b
	}
	if a, b := abs(p.Demand-p.Supply), abs(q.Demand-q.Supply); a != b {
		return a < b
	}
	if sign != 0 {
		return sign*p.Price > sign*q.Price
	}
	if a, b := abs(p.Price-around), abs(q.Price-around); a != b {
		return a < b
	}
	return p.Price < q.Price
}

func abs(n int) int { return max(n, -n) }

// sign is 1 or -1, if Demand is above Supply, or below, at each point that is as good as the best one, prices apart; else 0.
func sign(l []curve.Point) int {
	above, below := true, true
	for _, p := range l {
		worse := slices.ContainsFunc(l, func(q curve.Point) bool {
			p.Price = q.Price
			return better(q, p, 0, 0)
		})
		above = above && (worse || p.Demand > p.Supply)
		below = below && (worse || p.Demand < p.Supply)
	}
	switch {
	case above:
		return 1
	case below:
		return -1
	}
	return 0
}

// chosen is Choose by its words: the first point to which none is preferred.
func chosen(l []curve.Point, around int) api.Quote {
	s := sign(l)
	for _, p := range l {
		preferred := slices.ContainsFunc(l, func(q curve.Point) bool { return better(q, p, s, around) })
		if qty := min(p.Demand, p.Supply); !preferred && qty > 0 {
			return api.Quote{Price: p.Price, Qty: qty, Surplus: p.Demand - p.Supply}
		}
	}
	return api.Quote{}
}

// die: numbers that look drawn, the same each time.
type die uint64

func (d *die) n(most int) int {
	*d = *d*6364136223846793005 + 1442695040888963407
	return int(uint64(*d>>33) % uint64(most))
}

// order is one of few prices, from -3 to 12, now and then one that is nothing.
func (d *die) order() api.Order {
	o := api.Order{Id: d.n(9), Side: 1 + d.n(2), Kind: 1 + d.n(5), Price: 1 + d.n(12), Qty: 1 + d.n(6)}
	switch d.n(20) {
	case 0:
		o.Side = d.n(5) - 1
	case 1:
		o.Price = -d.n(4)
	case 2:
		o.Qty = []int{-1, 0, api.MaxQty, api.MaxQty + 1}[d.n(4)]
	}
	return o
}

func (d *die) orders() []api.Order {
	l := make([]api.Order, d.n(12))
	for i := range l {
		l[i] = d.order()
	}
	return l
}

// 6.1 and 6.2, of drawn orders, against their words.
func TestOfByWords(t *testing.T) {
	d := die(6)
	for range 4000 {
		l, more, around := d.orders(), d.n(20)-5, d.n(20)-5
		want := points(l, more, -4, 20)
		of(t, l, more, want...)
		chooses(t, want, around, chosen(want, around))
	}
}

// 6.2, of drawn points that no orders make, against its words.
func TestChooseByWords(t *testing.T) {
	d := die(7)
	for range 8000 {
		l := make([]curve.Point, d.n(8))
		for i := range l {
			l[i] = curve.Point{Price: d.n(9) - 2, Demand: 4 + d.n(3) - d.n(2)*3, Supply: 4 + d.n(3) - d.n(2)*3}
		}
		around := d.n(11) - 3
		chooses(t, l, around, chosen(l, around))
	}
}

// 'What is to be true of the whole': no price does more.
func TestNoPriceDoesMore(t *testing.T) {
	d := die(8)
	for range 3000 {
		l, more := d.orders(), 1+d.n(14)
		q := curve.Choose(curve.Of(l, more), d.n(20)-5)
		for price := -6; price <= 22; price++ {
			if p := at(l, price); min(p.Demand, p.Supply) > q.Qty {
				t.Fatalf("%v and %d: chosen was %v, but at %v more is traded", l, more, q, p)
			}
		}
	}
}
