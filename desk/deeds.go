package desk

import (
	"strconv"
	"strings"

	"openbell/api"
	"openbell/calendar"
	"openbell/engine"
	"openbell/num"
)

// helps are the words that a line may begin with.
const helps = "auction band bands buy cancel clear halt help open orders parked phase quote refs sell start table tick"

// table tells the market's rows, of ticks and phases by turns.
func (s *session) table(l []int) string {
	rows := make([]calendar.Row, 0, len(l)/2)
	for i := 0; i < len(l); i += 2 {
		rows = append(rows, calendar.Row{At: l[i], Phase: l[i+1]})
	}
	s.config.Table = rows
	return "table"
}

// bands tells how far prices may go, and the first one.
func (s *session) bands(l []int) string {
	s.config.Static, s.config.Dynamic, s.config.Price = l[0], l[1], l[2]
	return "bands"
}

// auction tells how long a volatility auction lasts, and how often it may be longer.
func (s *session) auction(l []int) string {
	s.config.Ticks, s.config.More = l[0], l[1]
	return "auction"
}

// start makes the market, of what was told of it.
func (s *session) start([]int) string {
	market, err := engine.New(s.config)
	check(err)
	s.market = market
	return "start"
}

func (s *session) buy(l []int) string { return s.order(api.Buy, l) }

func (s *session) sell(l []int) string { return s.order(api.Sell, l) }

// order lets an order of a side come.
func (s *session) order(side int, l []int) string {
	fills, err := s.market.Order(api.Order{Id: l[0], Side: side, Kind: l[1], Price: l[2], Qty: l[3]})
	check(err)
	return withFills("taken", fills)
}

// withFills is what is told, and trades behind it.
func withFills(told string, fills []api.Fill) string {
	parts := []string{told}
	for _, f := range fills {
		parts = append(parts, row(f.Buyer, f.Seller, f.Price, f.Qty))
	}
	return strings.Join(parts, ", ")
}

func (s *session) cancel(l []int) string {
	check(s.market.Cancel(l[0]))
	return "cancel"
}

func (s *session) tick([]int) string {
	fills, err := s.market.Tick()
	check(err)
	return withFills(row(s.market.Now()), fills)
}

func (s *session) halt([]int) string {
	check(s.market.Halt())
	return "halt"
}

func (s *session) open([]int) string {
	check(s.market.Open())
	return "open"
}

// phase is the word of the market's phase.
func (s *session) phase([]int) string {
	switch s.market.Phase() {
	case api.PreOpen:
		return "preopen"
	case api.Opening:
		return "opening"
	case api.Trading:
		return "trading"
	case api.Volatility:
		return "volatility"
	case api.Closing:
		return "closing"
	case api.Halt:
		return "halt"
	}
	return "ended"
}

func (s *session) quote([]int) string {
	q := s.market.Quote()
	return row(q.Price, q.Qty, q.Surplus)
}

func (s *session) refs([]int) string { return row(s.market.Refs()) }

func (s *session) orders(l []int) string {
	orders, err := s.market.Side(l[0])
	check(err)
	return listed(orders)
}

func (s *session) parked([]int) string { return listed(s.market.Parked()) }

// listed is orders, as a line tells them.
func listed(l []api.Order) string {
	parts := make([]string, len(l))
	for i, o := range l {
		parts[i] = row(o.Id, o.Kind, o.Price, o.Qty)
	}
	return strings.Join(parts, ", ")
}

// band tells how far prices may go around one, whether or not there is a market.
func (s *session) band(l []int) string {
	low, high, err := num.Band(l[0], l[1])
	check(err)
	return row(low, high)
}

// clear lets all be as at first.
func (s *session) clear([]int) string {
	*s = session{}
	return "clear"
}

func (s *session) help([]int) string { return helps }

// row is numbers with blanks between.
func row(l ...int) string {
	words := make([]string, len(l))
	for i, n := range l {
		words[i] = strconv.Itoa(n)
	}
	return strings.Join(words, " ")
}
