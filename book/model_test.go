package book_test

import (
	"slices"
	"testing"

	"openbell/api"
	"openbell/book"
)

// words does what chapter 4 says, by its words: the orders lie as they came, and are put in order anew each time.
type words []api.Order

func (w words) where(id int) int {
	return slices.IndexFunc(w, func(o api.Order) bool { return o.Id == id })
}

func (w *words) add(o api.Order) api.Errno {
	if o.Side != api.Buy && o.Side != api.Sell || o.Id <= 0 {
		return api.ErrArg
	}
	if o.Kind == api.Market {
		o.Price = 1
	}
	if o.Price < 1 || o.Price > api.MaxPrice || o.Qty < 1 || o.Qty > api.MaxQty {
		return api.ErrRange
	}
	if w.where(o.Id) >= 0 {
		return api.ErrTwice
	}
	if len(*w) >= api.MaxBook {
		return api.ErrFull
	}
	*w = append(*w, o)
	return api.OK
}

func (w words) order(id int) (api.Order, api.Errno) {
	if i := w.where(id); i >= 0 {
		return w[i], api.OK
	}
	return api.Order{}, api.ErrMissing
}

func (w *words) cancel(id int) (api.Order, api.Errno) {
	o, e := w.order(id)
	if e == api.OK {
		i := w.where(id)
		*w = append((*w)[:i:i], (*w)[i+1:]...)
	}
	return o, e
}

func (w *words) cut(id, qty int) api.Errno {
	i := w.where(id)
	if i < 0 {
		return api.ErrMissing
	}
	if has := (*w)[i].Qty; qty < 1 || qty > has {
		return api.ErrRange
	} else if qty == has {
		w.cancel(id)
	} else {
		(*w)[i].Qty -= qty
	}
	return api.OK
}

// prices are those of a side's orders that are not Market, the best first.
func (w words) prices(side int) []int {
	var l []int
	for _, o := range w {
		if o.Side == side && o.Kind != api.Market {
			l = append(l, o.Price)
		}
	}
	slices.Sort(l)
	l = slices.Compact(l)
	if side == api.Buy {
		slices.Reverse(l)
	}
	return l
}

func (w words) side(side int) ([]api.Order, []api.Level) {
	var l []api.Order
	var d []api.Level
	for _, o := range w {
		if o.Side == side && o.Kind == api.Market {
			l = append(l, o)
		}
	}
	for _, p := range w.prices(side) {
		level := api.Level{Price: p}
		for _, o := range w {
			if o.Side == side && o.Kind != api.Market && o.Price == p {
				l = append(l, o)
				level.Qty += o.Qty
				level.Orders++
			}
		}
		d = append(d, level)
	}
	return l, d
}

// agree holds all that a book tells against the words.
func agree(t *testing.T, b *book.Book, w words) {
	t.Helper()
	if n := b.Many(); n != len(w) {
		t.Fatalf("Many: %d, want %d", n, len(w))
	}
	got := look(t, b)
	for i, side := range bothSides {
		l, d := w.side(side)
		if !slices.Equal(got.sides[i], l) {
			t.Fatalf("Side(%d): %v, want %v", side, got.sides[i], l)
		}
		if !slices.Equal(got.depths[i], d) {
			t.Fatalf("Depth(%d): %v, want %v", side, got.depths[i], d)
		}
		var ids []int
		for _, o := range l {
			ids = append(ids, o.Id)
		}
		ranks(t, b, side, ids...)
	}
}

// die: numbers that look drawn, the same each time.
type die uint64

func (d *die) n(most int) int {
	*d = *d*6364136223846793005 + 1442695040888963407
	return int(uint64(*d>>33) % uint64(most))
}

// drawn is an order, now and then a wrong one.
func (d *die) drawn(id int) api.Order {
	o := api.Order{Id: id, Side: 1 + d.n(2), Kind: kinds[d.n(len(kinds))], Price: 1 + d.n(6), Qty: 1 + d.n(9)}
	switch d.n(40) {
	case 0:
		o.Side = noSides[d.n(len(noSides))]
	case 1:
		o.Id = noIds[d.n(len(noIds))]
	case 2:
		o.Price = noPrices[d.n(len(noPrices))]
	case 3:
		o.Qty = noLots[d.n(len(noLots))]
	}
	return o
}

// change does one thing to a book, drawn: it tells what came of it.
func change(b *book.Book, kind int, o api.Order) (api.Order, error) {
	switch kind {
	case 0:
		return b.Cancel(o.Id)
	case 1:
		return api.Order{}, b.Cut(o.Id, o.Qty)
	}
	return api.Order{}, b.Add(o)
}

// 4.1 and 4.2, against their words, with few and with many orders.
func TestByWords(t *testing.T) {
	d := die(4)
	for range 60 {
		b, w := with(t), words{}
		lean := 3 + d.n(6)
		for range 200 {
			kind, o := d.n(lean), d.drawn(1+d.n(130))
			got, err := change(b, kind, o)
			var want api.Order
			var e api.Errno
			switch kind {
			case 0:
				want, e = w.cancel(o.Id)
			case 1:
				e = w.cut(o.Id, o.Qty)
			default:
				e = w.add(o)
			}
			is(t, "a change", err, e)
			if got != want {
				t.Fatalf("%d of %v: %v, want %v", kind, o, got, want)
			}
			one, err := b.Order(o.Id)
			want, e = w.order(o.Id)
			is(t, "Order", err, e)
			if one != want {
				t.Fatalf("Order(%d): %v, want %v", o.Id, one, want)
			}
			agree(t, b, w)
		}
	}
}

// guests come, are cut perhaps, and go, as many as there is room for, in another order than they came.
func guests(t *testing.T, d *die, b *book.Book) {
	t.Helper()
	var ids []int
	for i := range d.n(api.MaxBook - b.Many() + 1) {
		o := api.Order{Id: 1000 + i, Side: 1 + d.n(2), Kind: kinds[d.n(len(kinds))], Price: 1 + d.n(6), Qty: 1 + d.n(9)}
		adds(t, b, o)
		if o.Qty > 1 && d.n(2) == 0 {
			is(t, "Cut", b.Cut(o.Id, 1), api.OK)
		}
		ids = slices.Insert(ids, d.n(len(ids)+1), o.Id)
	}
	for _, id := range ids {
		o, err := b.Order(id)
		is(t, "Order", err, api.OK)
		if d.n(2) == 0 {
			is(t, "Cut", b.Cut(id, o.Qty), api.OK)
			continue
		}
		_, err = b.Cancel(id)
		is(t, "Cancel", err, api.OK)
	}
}

// 'Who came and went left nothing (4)': a book that had guests is as it was, and goes on as one that never had any.
func TestWhoCameAndWentLeftNothing(t *testing.T) {
	d := die(5)
	for range 30 {
		inn, lone := with(t), with(t)
		lean := 3 + d.n(6)
		for range 120 {
			was := look(t, inn)
			guests(t, &d, inn)
			same(t, "guests", inn, was)
			kind, o := d.n(lean), d.drawn(1+d.n(130))
			got, err := change(inn, kind, o)
			want, wantErr := change(lone, kind, o)
			is(t, "a change", err, api.Tell(wantErr))
			if got != want {
				t.Fatalf("%d of %v: %v, want %v", kind, o, got, want)
			}
			same(t, "a book without guests", inn, look(t, lone))
		}
	}
}
