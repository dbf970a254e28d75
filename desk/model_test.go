package desk_test

import (
	"fmt"
	"slices"
	"strings"
	"testing"

	"openbell/api"
	"openbell/calendar"
	"openbell/desk"
	"openbell/engine"
	"openbell/num"
)

// die: numbers that look drawn, the same each time.
type die uint64

func (d *die) n(most int) int {
	*d = *d*6364136223846793005 + 1442695040888963407
	return int(uint64(*d>>33) % uint64(most))
}

// of is one of several.
func of[T any](d *die, l ...T) T { return l[d.n(len(l))] }

// model is a session by the chapter's words: it is told words and numbers, not a text.
type model struct {
	c engine.Config
	e *engine.Engine
}

// tell is what a line of the right form is answered.
func (m *model) tell(word string, l ...int) string {
	switch word {
	case "table", "bands", "auction", "start":
		if m.e != nil {
			return badState
		}
		return m.make(word, l)
	case "band":
		low, high, err := num.Band(l[0], l[1])
		return said(err, fmt.Sprint(low, high))
	case "clear":
		*m = model{}
		return word
	case "help":
		return help
	}
	if m.e == nil {
		return badState
	}
	return m.ask(word, l)
}

// said is an answer, or the error.
func said(err error, told string) string {
	if err != nil {
		return fmt.Sprint("error ", int(api.Tell(err)))
	}
	return told
}

// make tells what makes a market.
func (m *model) make(word string, l []int) string {
	switch word {
	case "table":
		m.c.Table = nil
		for p := range slices.Chunk(l, 2) {
			m.c.Table = append(m.c.Table, calendar.Row{At: p[0], Phase: p[1]})
		}
	case "bands":
		m.c.Static, m.c.Dynamic, m.c.Price = l[0], l[1], l[2]
	case "auction":
		m.c.Ticks, m.c.More = l[0], l[1]
	case "start":
		e, err := engine.New(m.c)
		if err != nil {
			return said(err, "")
		}
		m.e = e
	}
	return word
}

// ask tells a market what it is to do.
func (m *model) ask(word string, l []int) string {
	switch word {
	case "buy", "sell":
		side := map[string]int{"buy": api.Buy, "sell": api.Sell}[word]
		f, err := m.e.Order(api.Order{Id: l[0], Side: side, Kind: l[1], Price: l[2], Qty: l[3]})
		return said(err, "taken"+fills(f))
	case "tick":
		f, err := m.e.Tick()
		return said(err, fmt.Sprint(m.e.Now())+fills(f))
	case "cancel":
		return said(m.e.Cancel(l[0]), word)
	case "halt":
		return said(m.e.Halt(), word)
	case "open":
		return said(m.e.Open(), word)
	case "phase":
		return phaseWords()[m.e.Phase()]
	case "quote":
		q := m.e.Quote()
		return fmt.Sprint(q.Price, q.Qty, q.Surplus)
	case "refs":
		return fmt.Sprint(m.e.Refs())
	case "orders":
		o, err := m.e.Side(l[0])
		return said(err, orders(o))
	case "parked":
		return orders(m.e.Parked())
	}
	return badForm
}

// fills and orders are such, as they stand in an answer.
func fills(l []api.Fill) (s string) {
	for _, f := range l {
		s += fmt.Sprintf(", %d %d %d %d", f.Buyer, f.Seller, f.Price, f.Qty)
	}
	return s
}

func orders(l []api.Order) (s string) {
	for _, o := range l {
		s += fmt.Sprintf(", %d %d %d %d", o.Id, o.Kind, o.Price, o.Qty)
	}
	return strings.TrimPrefix(s, ", ")
}

// makes is a line that makes a market, with numbers that are often right.
func (d *die) makes() (string, []int) {
	switch d.n(7) {
	case 0, 1:
		return "table", of(d, []int{0, 1, 2, 2, 5, 3, 20, 5, 30, 7}, []int{0, 1, 1, 2, 2, 3}, []int{0, 1, 3, 2, 6, 3, 30, 7}, []int{}, []int{0, 1, 2, 3}, []int{0, 1, 2, 2, 2, 3})
	case 2:
		return "bands", []int{d.n(1500), d.n(500), 98 + d.n(5)}
	case 3:
		return "bands", of(d, []int{-1, 5, 5}, []int{0, 0, 0}, []int{10000, 10000, 100})
	case 4:
		return "auction", []int{d.n(5), d.n(13) - 1}
	}
	return "start", nil
}

// asks is a line that tells a market something; new orders have this number at most.
func (d *die) asks(id int) (string, []int) {
	switch d.n(20) {
	case 0, 1, 2:
		return "tick", nil
	case 3:
		return of(d, "halt", "open", "open", "open"), nil
	case 4, 5:
		return "cancel", []int{d.n(id + 3)}
	case 6:
		return "orders", []int{of(d, 1, 1, 1, 2, 2, 2, 0, 3, -1)}
	case 7, 8:
		return of(d, "phase", "quote", "refs", "parked"), nil
	case 9:
		return "band", []int{of(d, 0, 1, 50, 100, 1000000, 1000001), of(d, -1, 0, 1, 1000, 10000, 10001)}
	case 10:
		return of(d, "buy", "sell"), []int{of(d, 0, -5, id, 1), d.n(7) - 1, of(d, 0, 1, 100, 1000000, 1000001), of(d, 0, 1, 1000000, 1000001)}
	}
	return of(d, "buy", "sell"), []int{of(d, id, id, id, id, id, id, id, 1+d.n(id)), of(d, api.Limit, api.Limit, api.Limit, api.Market, api.Auction, api.Close), 94 + d.n(13), 1 + d.n(9)}
}

// blanks lays words into a line, some times with more blanks than one.
func (d *die) blanks(l []string) string {
	if d.n(8) > 0 {
		return strings.Join(l, " ")
	}
	s := strings.Repeat(" ", d.n(3))
	for _, w := range l {
		s += w + strings.Repeat(" ", 1+d.n(3))
	}
	return s
}

// spoils makes words of another form of a line's.
func (d *die) spoils(l []string) []string {
	bad := of(d, "x", "01", "-", "+1", "-0", "1.5", "9223372036854775808", "-9223372036854775809", "y", "1\t", "\xff", "é")
	switch at := d.n(len(l)); d.n(4) {
	case 0:
		l[at] = bad
	case 1:
		l = slices.Insert(l, at, bad)
	case 2:
		l = append(l, bad)
	default:
		l[0] = of(d, "x", "Tick", "tick\r", "0", "ok", "bandz", "helps")
	}
	return l
}

// row is a long row of lines, and what they are answered.
func (d *die) row(n int) (lines, want []string) {
	var m model
	for id := 1; len(lines) < n; id++ {
		word, l := d.asks(id)
		if m.e == nil && d.n(6) > 0 || d.n(30) == 0 {
			word, l = d.makes()
		}
		if d.n(40) == 0 {
			word, l = of(d, "clear", "help", "help", "help"), nil
		}
		all := []string{word}
		for _, x := range l {
			all = append(all, fmt.Sprint(x))
		}
		switch d.n(20) {
		case 0:
			lines, want = append(lines, d.blanks(d.spoils(all))), append(want, badForm)
		case 1:
			lines, want = append(lines, d.blanks(nil)), append(want, "ok")
		default:
			lines, want = append(lines, d.blanks(all)), append(want, m.tell(word, l...))
		}
	}
	return lines, want
}

// 10.1: long rows of lines that look drawn, each answered by the line that the chapter asks.
func TestLongRows(t *testing.T) {
	d := die(10)
	seen := map[string]int{}
	for range 200 {
		x := talks(t)
		x.lines, x.want = d.row(100 + d.n(900))
		x.check()
		for i, s := range x.want {
			word := strings.Fields(x.lines[i] + " ok")[0]
			switch {
			case strings.HasPrefix(s, "error"):
				seen[s]++
			case strings.Contains(s, ", "):
				seen[word+" with several"]++
			case word == "phase":
				seen["phase "+s]++
			}
			if !strings.HasPrefix(s, "error") {
				seen[word]++
			}
		}
	}
	often := append(strings.Fields(help), badArg, badRange, badForm, badState, badMissing, badNone, badTwice, badOrder, "ok")
	often = append(often, "buy with several", "sell with several", "tick with several", "orders with several", "parked with several")
	for _, word := range phaseWords() {
		often = append(often, "phase "+word)
	}
	for _, s := range often {
		if seen[s] < 20 {
			t.Errorf("%q is to be seen more often: %d", s, seen[s])
		}
	}
}

// 10.1: a text that is cut short behind a line is answered by as many lines, and these are the same.
func TestCutShort(t *testing.T) {
	d := die(1)
	for range 20 {
		lines, want := d.row(200)
		for n := 1; n <= len(lines); n++ {
			for _, text := range texts(lines[:n]) {
				answers(t, text, strings.Join(want[:n], "\n")+"\n")
			}
		}
	}
}

// 10.1, P2: with an error nothing is changed: without the lines that have one all others are answered as they were; without those that only ask, too.
func TestErrorsChangeNothing(t *testing.T) {
	d := die(2)
	asking := []string{"phase", "quote", "refs", "orders", "parked", "band", "help"}
	for range 60 {
		lines, want := d.row(500)
		errors, quiet := talks(t), talks(t)
		for i, s := range want {
			if strings.HasPrefix(s, "error") || s == "ok" {
				continue
			}
			errors.say(lines[i], s)
			if !slices.Contains(asking, strings.Fields(lines[i])[0]) {
				quiet.say(lines[i], s)
			}
		}
		errors.check()
		quiet.check()
	}
}

// 10.1, P1: texts of any bytes are answered, line by line.
func TestAnyBytes(t *testing.T) {
	d := die(3)
	parts := append(strings.Fields(help), " ", " ", " ", "\n", "\n", "\n", "\t", "\r", "0", "1", "-", "9", "5 1", "0 1 1 2 2 3", "100", "\x00", "\xff", "\xc3", "é", "\u2028")
	for range 3000 {
		var b strings.Builder
		for range d.n(120) {
			b.WriteString(of(&d, parts...))
			if d.n(9) == 0 {
				b.WriteByte(byte(d.n(256)))
			}
			if d.n(3) == 0 {
				b.WriteByte(' ')
			}
		}
		text := b.String()
		lines := strings.Split(strings.TrimSuffix(text, "\n"), "\n")
		got := desk.Session(text)
		if strings.Count(got, "\n") != len(lines) || !strings.HasSuffix(got, "\n") {
			t.Fatalf("%q: %q, want %d lines", text, got, len(lines))
		}
		if again := desk.Session(strings.Clone(text)); again != got {
			t.Fatalf("%q: %q, and then %q", text, got, again)
		}
		for i, s := range strings.Split(strings.TrimSuffix(got, "\n"), "\n") {
			if (s == "ok") != (strings.Trim(lines[i], " ") == "") {
				t.Fatalf("%q: %q is answered %q", text, lines[i], s)
			}
		}
	}
}
