package engine_test

import (
	"fmt"
	"slices"
	"testing"

	"openbell/api"
	"openbell/curve"
	"openbell/engine"
)

// words does what chapter 9 says, by its words: orders stand in two lists, and trade lot by lot.
type words struct {
	c            engine.Config
	phase, now   int
	anchor, last int
	lies, waits  []api.Order // as they came there
	ids          []int
	ends, longer int
}

func newWords(c engine.Config) *words {
	return &words{c: c, phase: api.PreOpen, anchor: c.Price, last: c.Price}
}

// table is the table's phase at a tick.
func (w *words) table(now int) int {
	p := api.PreOpen
	for _, r := range w.c.Table {
		if r.At <= now {
			p = r.Phase
		}
	}
	return p
}

// near says whether a price lies in a band: no farther than the share of the price in the middle, as a whole number.
func near(x, price, share int) bool {
	return max(x-price, price-x)*api.MaxBand <= price*share
}

// side are the places of a side's orders, the best first.
func (w *words) side(side int) []int {
	var l []int
	for i, o := range w.lies {
		if o.Side == side && o.Qty > 0 {
			l = append(l, i)
		}
	}
	rank := func(i int) int {
		switch o := w.lies[i]; {
		case o.Kind == api.Market:
			return -api.MaxPrice - 1
		case side == api.Buy:
			return -o.Price
		default:
			return o.Price
		}
	}
	slices.SortStableFunc(l, func(i, j int) int { return rank(i) - rank(j) })
	return l
}

// quote is what an auction would do, in a phase that is one.
func (w *words) quote() api.Quote {
	if w.phase == api.Trading || w.phase == api.Halt || w.phase == api.Ended {
		return api.Quote{}
	}
	return curve.Choose(curve.Of(w.lies, w.last), w.last)
}

// looks is what looks tells of a market.
func (w *words) looks() view {
	var l []api.Order
	for _, side := range bothSides {
		for _, i := range w.side(side) {
			l = append(l, w.lies[i])
		}
	}
	return view{phase: w.phase, now: w.now, anchor: w.anchor, last: w.last, quote: w.quote(), lie: l, wait: w.waits}
}

// order does what Order says.
func (w *words) order(o api.Order) ([]api.Fill, api.Errno) {
	if o.Kind == api.Market {
		o.Price = 1
	}
	may := map[int][]int{
		api.PreOpen:    {api.Limit, api.Auction, api.Close},
		api.Opening:    kinds,
		api.Trading:    {api.Limit, api.Market, api.Close},
		api.Volatility: kinds,
		api.Closing:    kinds,
	}
	switch {
	case !slices.Contains(bothSides, o.Side) || !slices.Contains(kinds, o.Kind) || o.Id < 1:
		return nil, api.ErrArg
	case o.Price < 1 || o.Price > api.MaxPrice || o.Qty < 1 || o.Qty > api.MaxQty:
		return nil, api.ErrRange
	case !slices.Contains(may[w.phase], o.Kind):
		return nil, api.ErrState
	case slices.Contains(w.ids, o.Id):
		return nil, api.ErrTwice
	case len(w.lies)+len(w.waits) >= api.MaxBook:
		return nil, api.ErrFull
	}
	w.ids = append(w.ids, o.Id)
	switch {
	case o.Kind == api.Close && w.phase != api.Closing:
		w.waits = append(w.waits, o)
		return nil, api.OK
	case w.phase != api.Trading:
		w.lies = append(w.lies, o)
		return nil, api.OK
	}
	return w.meets(o), api.OK
}

// meets lets an order trade with those that lie, in Trading, lot by lot.
func (w *words) meets(o api.Order) []api.Fill {
	var l []api.Fill
	for o.Qty > 0 {
		other := w.side(api.Buy + api.Sell - o.Side)
		if len(other) == 0 {
			break
		}
		x := &w.lies[other[0]]
		if o.Kind != api.Market && (o.Side == api.Buy && x.Price > o.Price || o.Side == api.Sell && x.Price < o.Price) {
			break
		}
		// Of lots that the same two trade, the first one alone is asked about: it is one trade.
		again := len(l) > 0 && (l[len(l)-1].Buyer == x.Id || l[len(l)-1].Seller == x.Id)
		if !again && !(near(x.Price, w.anchor, w.c.Static) && near(x.Price, w.last, w.c.Dynamic)) {
			w.gathers()
			break
		}
		f := fill(o.Id, x.Id, x.Price, 1)
		if o.Side == api.Sell {
			f.Buyer, f.Seller = f.Seller, f.Buyer
		}
		l = together(l, f)
		o.Qty--
		x.Qty--
		w.last = x.Price
	}
	if o.Kind != api.Market {
		w.lies = append(w.lies, o)
	}
	w.sweep(func(o api.Order) bool { return o.Qty == 0 })
	return l
}

// together is trades and one more: if that is of the same two as the last one, with it.
func together(l []api.Fill, f api.Fill) []api.Fill {
	if n := len(l); n > 0 && l[n-1].Buyer == f.Buyer && l[n-1].Seller == f.Seller {
		l[n-1].Qty += f.Qty
		return l
	}
	return append(l, f)
}

// sweep lets those go who lie, and of whom something is so.
func (w *words) sweep(goes func(api.Order) bool) { w.lies = slices.DeleteFunc(w.lies, goes) }

// uncross trades what the Quote says, lot by lot.
func (w *words) uncross() []api.Fill {
	q := w.quote()
	var l []api.Fill
	for range q.Qty {
		buy, sell := &w.lies[w.side(api.Buy)[0]], &w.lies[w.side(api.Sell)[0]]
		l = together(l, fill(buy.Id, sell.Id, q.Price, 1))
		buy.Qty--
		sell.Qty--
		w.anchor, w.last = q.Price, q.Price
	}
	w.sweep(func(o api.Order) bool { return o.Qty == 0 || o.Kind != api.Limit })
	return l
}

// cancel does what Cancel says.
func (w *words) cancel(id int) api.Errno {
	if w.phase == api.Ended {
		return api.ErrState
	}
	was := len(w.lies) + len(w.waits)
	is := func(o api.Order) bool { return o.Id == id }
	w.sweep(is)
	w.waits = slices.DeleteFunc(w.waits, is)
	if len(w.lies)+len(w.waits) == was {
		return api.ErrMissing
	}
	return api.OK
}

// gathers begins a volatility auction.
func (w *words) gathers() { w.phase, w.ends, w.longer = api.Volatility, w.now+w.c.Ticks, 0 }

// closing begins the closing auction.
func (w *words) closing() {
	w.phase = api.Closing
	w.lies = append(w.lies, w.waits...)
	w.waits = nil
}

// tick does what Tick says.
func (w *words) tick() ([]api.Fill, api.Errno) {
	if w.phase == api.Ended {
		return nil, api.ErrState
	}
	w.now++
	var l []api.Fill
	if w.table(w.now) == api.Ended {
		if w.phase == api.Closing {
			l = w.uncross()
		}
		w.lies, w.waits, w.phase = nil, nil, api.Ended
		return l, api.OK
	}
	if w.phase == api.Halt {
		return nil, api.OK
	}
	if p := w.table(w.now); p != w.table(w.now-1) {
		switch p {
		case api.Trading:
			l = w.uncross()
			w.phase = api.Trading
		case api.Closing:
			w.closing()
		case api.Opening:
			w.phase = api.Opening
		}
		return l, api.OK
	}
	if w.phase == api.Volatility && w.now == w.ends {
		q := w.quote()
		if q == (api.Quote{}) || near(q.Price, w.anchor, w.c.Static) {
			l = w.uncross()
			w.phase = api.Trading
		} else if w.longer < w.c.More {
			w.longer++
			w.ends = w.now + w.c.Ticks
		} else {
			w.phase = api.Halt
		}
	}
	return l, api.OK
}

// halt and open do what Halt and Open say.
func (w *words) halt() api.Errno {
	if w.phase == api.Halt || w.phase == api.Ended {
		return api.ErrState
	}
	w.phase = api.Halt
	return api.OK
}

func (w *words) open() api.Errno {
	if w.phase != api.Halt {
		return api.ErrState
	}
	switch p := w.table(w.now); p {
	case api.Trading:
		w.gathers()
	case api.Closing:
		w.closing()
	default:
		w.phase = p
	}
	return api.OK
}

// die: numbers that look drawn, the same each time.
type die uint64

func (d *die) n(most int) int {
	*d = *d*6364136223846793005 + 1442695040888963407
	return int(uint64(*d>>33) % uint64(most))
}

// config is a market's, with all phases or some of them, that begin sooner or later.
func (d *die) config() engine.Config {
	l := [][]int{{2, 3, 5, 7}, {2, 3, 7}, {2, 3, 5}, {2, 3, 5, 7}, {2, 3}, {2}, {}}[d.n(20)%7]
	table, at := rows(0, api.PreOpen), 0
	for i, p := range l {
		at += 1 + d.n(4)
		if i > 0 && l[i-1] == api.Trading {
			at += d.n(40)
		}
		table = append(table, rows(at, p)...)
	}
	return engine.Config{
		Table:   table,
		Static:  d.n([]int{1, 400, 1500, 4000}[d.n(4)]),
		Dynamic: d.n([]int{1, 300, 700, 3000}[d.n(4)]),
		Price:   90 + d.n(21),
		Ticks:   1 + d.n(4),
		More:    d.n(3),
	}
}

// order is one around 100, now and then a wrong one.
func (d *die) order(id int) api.Order {
	o := api.Order{Id: id, Side: 1 + d.n(2), Kind: []int{1, 1, 1, 1, 2, 3, 4}[d.n(7)], Price: 93 + d.n(15), Qty: 1 + d.n(20)}
	switch d.n(80) {
	case 0:
		o.Side = d.n(6) - 2
	case 1:
		o.Kind = d.n(8) - 2
	case 2:
		o.Price = wild[d.n(len(wild))]
	case 3:
		o.Qty = beyond[d.n(len(beyond))]
	case 4:
		o.Id = d.n(id+1) - 1
	case 5:
		o.Price = 60 + d.n(80)
	}
	return o
}

// plays is what a row is of: one call of so many is a tick, and whether Halt and Open are among them.
type plays struct {
	steps, ticks int
	halts        bool
}

// rowsOf are kinds of rows: slow and quick ones, long enough for a full book.
var rowsOf = []plays{{150, 3, true}, {200, 5, true}, {300, 12, true}, {400, 40, true}, {250, 6, false}, {250, 3, false}}

// agree checks that a market answers by the words.
func agree(t *testing.T, what string, got []api.Fill, err error, want []api.Fill, e api.Errno) {
	t.Helper()
	is(t, what, err, e)
	if !slices.Equal(got, want) {
		t.Fatalf("%s: %v, want %v", what, got, want)
	}
}

// step does one call, of a market and by the words.
func step(t *testing.T, d *die, e *engine.Engine, w *words, p plays, id int) {
	t.Helper()
	switch n := d.n(p.ticks * 4); {
	case n < 4:
		got, err := e.Tick()
		want, no := w.tick()
		agree(t, "Tick", got, err, want, no)
	case n < 6:
		id := d.n(id+3) - 1
		is(t, fmt.Sprint("Cancel ", id), e.Cancel(id), w.cancel(id))
	case n == 6 && p.halts && d.n(6) == 0:
		is(t, "Halt", e.Halt(), w.halt())
	case n == 7 && p.halts:
		is(t, "Open", e.Open(), w.open())
	default:
		o := d.order(id)
		got, err := e.Order(o)
		want, no := w.order(o)
		agree(t, fmt.Sprintf("Order(%+v)", o), got, err, want, no)
	}
}

// 9.1 to 9.4, against their words: long rows of calls, in many markets.
func TestByWords(t *testing.T) {
	d := die(9)
	seen := map[string]int{}
	for i := range 400 {
		c, p := d.config(), rowsOf[i%len(rowsOf)]
		e, w := starts(t, c), newWords(c)
		for id := 1; id <= p.steps; id++ {
			was := *w
			step(t, &d, e, w, p, id)
			if got, want := looks(t, e), w.looks(); !got.is(want) {
				t.Fatalf("%+v: it is\n%+v, want\n%+v", c, got, want)
			}
			seen[fmt.Sprint("from ", was.phase, " to ", w.phase)]++
			if w.longer > was.longer {
				seen["longer"]++
			}
			if len(w.lies)+len(w.waits) == api.MaxBook {
				seen["full"]++
			}
		}
	}
	for _, want := range []string{
		"longer", "full", "from 1 to 2", "from 1 to 6", "from 2 to 3", "from 2 to 6", "from 3 to 4", "from 3 to 5", "from 3 to 6", "from 3 to 7",
		"from 4 to 3", "from 4 to 5", "from 4 to 6", "from 4 to 7", "from 5 to 6", "from 5 to 7", "from 6 to 1", "from 6 to 2", "from 6 to 4", "from 6 to 5", "from 6 to 7",
	} {
		if seen[want] == 0 {
			t.Errorf("%q was to be seen: %v", want, seen)
		}
	}
}
