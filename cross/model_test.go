package cross_test

import (
	"fmt"
	"slices"
	"testing"

	"openbell/api"
	"openbell/cross"
	"openbell/curve"
)

// words does what chapter 8 says, by its words, on orders that lie as they came.
type words []api.Order

// would says whether an order is WILLING at a price.
func would(o api.Order, price int) bool {
	return o.Kind == api.Market || o.Side == api.Buy && o.Price >= price || o.Side == api.Sell && o.Price <= price
}

// side are the places of a side's orders that have lots, the best first: by price, and of one price as they came.
func (w words) side(side int) []int {
	var l []int
	for i, o := range w {
		if o.Side == side && o.Qty > 0 {
			l = append(l, i)
		}
	}
	rank := func(i int) int {
		switch {
		case w[i].Kind == api.Market:
			return -api.MaxPrice - 1
		case side == api.Buy:
			return -w[i].Price
		}
		return w[i].Price
	}
	slices.SortStableFunc(l, func(i, j int) int { return rank(i) - rank(j) })
	return l
}

// lies are the orders of both sides, as look tells them of a book.
func (w words) lies() []api.Order {
	var l []api.Order
	for _, side := range bothSides {
		for _, i := range w.side(side) {
			l = append(l, w[i])
		}
	}
	return l
}

// lots are how many are willing on a side.
func (w words) lots(side, price int) int {
	n := 0
	for _, i := range w.side(side) {
		if would(w[i], price) {
			n += w[i].Qty
		}
	}
	return n
}

// fills trades lot by lot: those of the same two that follow each other are one Fill.
func (w words) fills(price, qty int) ([]api.Fill, api.Errno) {
	if qty < 1 || qty > w.lots(api.Buy, price) || qty > w.lots(api.Sell, price) {
		return nil, api.ErrRange
	}
	var l []api.Fill
	for range qty {
		buy, sell := w.side(api.Buy)[0], w.side(api.Sell)[0]
		w[buy].Qty--
		w[sell].Qty--
		f := fill(w[buy].Id, w[sell].Id, price, 1)
		if n := len(l); n > 0 && l[n-1].Buyer == f.Buyer && l[n-1].Seller == f.Seller {
			l[n-1].Qty++
		} else {
			l = append(l, f)
		}
	}
	return l, api.OK
}

// meets lets an order meet those of the other side, where the prices from low to high are allowed.
func (w words) meets(o api.Order, low, high int) met {
	var m met
	for _, i := range w.side(api.Buy + api.Sell - o.Side) {
		x := &w[i]
		if x.Kind == api.Market {
			continue
		}
		above, below := x.Price > o.Price, x.Price < o.Price
		if o.Qty < 1 || o.Kind != api.Market && (o.Side == api.Buy && above || o.Side == api.Sell && below) {
			break
		}
		m.said = append(m.said, fmt.Sprint("may ", x.Price))
		if x.Price < low || x.Price > high {
			m.stopped = true
			break
		}
		f := fill(o.Id, x.Id, x.Price, 0)
		if o.Side == api.Sell {
			f.Buyer, f.Seller = f.Seller, f.Buyer
		}
		for o.Qty > 0 && x.Qty > 0 {
			o.Qty, x.Qty, f.Qty = o.Qty-1, x.Qty-1, f.Qty+1
		}
		m.fills = append(m.fills, f)
		m.said = append(m.said, fmt.Sprint("was ", x.Price))
	}
	m.left = o
	return m
}

// die: numbers that look drawn, the same each time.
type die uint64

func (d *die) n(most int) int {
	*d = *d*6364136223846793005 + 1442695040888963407
	return int(uint64(*d>>33) % uint64(most))
}

// order is one of so many prices.
func (d *die) order(id, prices int) api.Order {
	o := api.Order{Id: id, Side: 1 + d.n(2), Kind: limits[d.n(len(limits))], Price: 1 + d.n(prices), Qty: 1 + d.n(9)}
	if d.n(5) == 0 {
		o.Kind, o.Price = api.Market, 1
	}
	return o
}

// orders are from none to many, of any numbers, each once.
func (d *die) orders(prices int) words {
	var w words
	for i := range d.n(1 + []int{4, 12, 40}[d.n(3)]) {
		w = append(w, d.order(1+i, prices))
	}
	// Numbers do not tell who came first.
	for i := range w {
		j := d.n(i + 1)
		w[i].Id, w[j].Id = w[j].Id, w[i].Id
	}
	return w
}

// 8.1 and 8.2, against their words: auctions and orders that come, one behind the other, in one book.
func TestByWords(t *testing.T) {
	d := die(8)
	filled, refused, stopped := 0, 0, 0
	for range 1500 {
		prices := 1 + d.n(12)
		w := d.orders(prices)
		b := with(t, w...)
		for range 6 {
			if d.n(2) == 0 {
				price := d.n(prices+4) - 1
				qty := d.n(3+min(w.lots(api.Buy, price), w.lots(api.Sell, price))) - 1
				got, err := cross.Fills(b, price, qty)
				want, e := w.fills(price, qty)
				is(t, "Fills", err, e)
				if !slices.Equal(got, want) {
					t.Fatalf("Fills at %d of %d: %v, want %v", price, qty, got, want)
				}
				filled += len(got)
				refused += int(e)
			} else {
				o, low := d.order(1000, prices), d.n(3)
				o.Qty += d.n(3)*d.n(20) - 1
				high := low + d.n(prices+2)
				got, want := meet(b, o, low, high), w.meets(o, low, high)
				if !slices.Equal(got.fills, want.fills) || got.left != want.left || got.stopped != want.stopped || !slices.Equal(got.said, want.said) {
					t.Fatalf("%+v, allowed from %d to %d: %+v, want %+v", o, low, high, got, want)
				}
				if got.stopped {
					stopped++
				}
			}
			lie(t, b, w.lies()...)
		}
	}
	if filled == 0 || refused == 0 || stopped == 0 {
		t.Fatalf("%d trades, %d refused, %d stopped: all of them were to be seen", filled, refused, stopped)
	}
}

// traded is how many lots of an order are.
func traded(l []api.Fill, o api.Order) int {
	n := 0
	for _, f := range l {
		if o.Side == api.Buy && f.Buyer == o.Id || o.Side == api.Sell && f.Seller == o.Id {
			n += f.Qty
		}
	}
	return n
}

// 'Nobody is passed by (8): at an auction's price': who trades is willing, and trades no more than it has; all who lie ahead of it have traded all that they had; and of as many lots as are willing nobody who is willing is left on one side.
func TestNobodyIsPassedBy(t *testing.T) {
	d := die(88)
	for range 3000 {
		prices := 1 + d.n(12)
		w := d.orders(prices)
		around := 1 + d.n(prices)
		q := curve.Choose(curve.Of(w, around), around)
		if q.Qty == 0 {
			continue
		}
		qty := q.Qty - d.n(2)*d.n(q.Qty)
		b := with(t, w...)
		ahead := look(t, b)
		l, err := cross.Fills(b, q.Price, qty)
		is(t, "Fills of a quote", err, api.OK)
		if sum(l) != qty {
			t.Fatalf("%v: %v, of %d lots, want %d", w, l, sum(l), qty)
		}
		for i, o := range ahead {
			n := traded(l, o)
			if n > o.Qty || n > 0 && !would(o, q.Price) {
				t.Fatalf("%v at %d: %d lots of %+v", l, q.Price, n, o)
			}
			if n > 0 && i > 0 && ahead[i-1].Side == o.Side && traded(l, ahead[i-1]) < ahead[i-1].Qty {
				t.Fatalf("%v at %d: %+v trades, and %+v is passed by", l, q.Price, o, ahead[i-1])
			}
		}
		left := words(look(t, b))
		if qty == q.Qty && left.lots(api.Buy, q.Price) > 0 && left.lots(api.Sell, q.Price) > 0 {
			t.Fatalf("%v at %d: on both sides willing ones are left: %v", l, q.Price, left)
		}
	}
}
