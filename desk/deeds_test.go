package desk_test

import (
	"fmt"
	"strings"
	"testing"

	"openbell/api"
	"openbell/desk"
)

// phaseWords has each phase's word.
func phaseWords() map[int]string {
	return map[int]string{
		api.PreOpen: "preopen", api.Opening: "opening", api.Trading: "trading", api.Volatility: "volatility", api.Closing: "closing", api.Halt: "halt", api.Ended: "ended",
	}
}

// Lines that are told ahead of start, and from there on, in the right form.
var (
	aheadLines  = []string{"table", "table 0 1", "bands 0 0 1", "auction 1 0", "start"}
	behindLines = []string{"buy 1 1 100 1", "sell 1 1 100 1", "cancel 1", "tick", "halt", "open", "phase", "quote", "refs", "orders 1", "orders 3", "parked"}
)

// 10.1: ErrState of what needs a market, if there is none, whatever was told ahead of it; ErrForm comes first.
func TestWithoutMarket(t *testing.T) {
	x := talks(t)
	for _, line := range behindLines {
		x.say(line, badState, line+" x", badForm, line+" 1 1 1 1 1", badForm)
	}
	x.say("table 0 1", "table", "bands 0 0 1", "bands", "auction 1 0", "auction")
	for _, line := range behindLines {
		x.say(line, badState)
	}
	x.say("buy 0 9 0 0", badState, "orders 3", badState, "orders x", badForm, "start 1", badForm, "tick", badState, "start", "start", "tick", "1").check()
}

// 10.1: ErrState of what makes a market, if there is one, in each phase; ErrForm comes first, and nothing is changed.
func TestWithMarket(t *testing.T) {
	for phase, word := range phaseWords() {
		x := in(t, phase)
		for _, line := range aheadLines {
			x.say(line, badState, line+" x", badForm, line+" 1 1 1", badForm)
		}
		x.say("bands 1 2", badForm, "bands 9 9 9", badState, "table 0", badForm, "table 9 9", badState, "auction 0 0", badState)
		x.say("phase", word, "refs", "100 100", "start", badState, "clear", "clear", "start", badNone).check()
	}
}

// empty lets a market tell all of itself: its phase, the prices of its bands, and that it has no orders.
func (x *talk) empty(phase string) *talk { return x.emptyAt(phase, "100 100") }

func (x *talk) emptyAt(phase, refs string) *talk {
	return x.say("phase", phase, "quote", "0 0 0", "refs", refs, "orders 1", "", "orders 2", "", "parked", "")
}

// 10.1: what is told of a market without orders, and each phase's word.
func TestEmptyMarket(t *testing.T) {
	for phase, word := range phaseWords() {
		in(t, phase).empty(word).check()
	}
}

// 10.1: table tells rows: none, one, two, and all that there may be; not with an odd number of words.
func TestTable(t *testing.T) {
	rest := []string{"bands 1000 500 100", "bands", "auction 3 1", "auction"}
	talks(t, rest...).say("start", badNone, "table", "table", "start", badNone, "table 0", badForm, "start", badNone, "table 0 1", "table", "start", "start").
		say("tick", "1", "tick", "2", "phase", "preopen").check()
	talks(t, rest...).say("table 0 1 1 2", "table", "start", "start", "phase", "preopen", "tick", "1", "phase", "opening", "tick", "2", "phase", "opening").check()
	talks(t, rest...).say("table 0 1 1 2 3 3 4 5 6 7", "table", "start", "start").
		say("tick", "1", "phase", "opening", "tick", "2", "phase", "opening", "tick", "3", "phase", "trading", "tick", "4", "phase", "closing", "tick", "5", "tick", "6", "phase", "ended").check()
	// The last one that was told alone is the market's; one of another form changes nothing.
	talks(t, rest...).say("table 0 1 1 2", "table", "table 0 1", "table", "table 0 1 1", badForm, "table 0 1 1 x", badForm, "start", "start", "tick", "1", "phase", "preopen").check()
	talks(t, rest...).say("table 0 1", "table", "table", "table", "start", badNone).check()
	talks(t, rest...).say("table 0 1", "table", "table 0 1 1 2", "table", "table 1", badForm, "start", "start", "tick", "1", "phase", "opening").check()
}

// 10.1: a table of wrong rows is told by start, not by table; one of more rows than there may be, too.
func TestTableOfAnything(t *testing.T) {
	rows := func(n int) string {
		s := "table 0 1"
		for i := 1; i < n; i++ {
			s += fmt.Sprint(" ", i, " ", min(i+1, api.Trading))
		}
		return s
	}
	talks(t, "bands 0 0 1", "bands", "auction 1 0", "auction").
		say(rows(3), "table", rows(4), "table", "start", badArg, rows(api.MaxRows), "table", "start", badArg, rows(api.MaxRows+1), "table", "start", badLimit).
		say(rows(1000), "table", "start", badLimit, "table -5 99 7 -7", "table", "start", badArg, rows(3), "table", "start", "start").check()
}

// 10.1: start tells what New says, and there is no market behind an error; what was told ahead of it is still there.
func TestStart(t *testing.T) {
	for _, c := range []struct{ line, answer, want, mended string }{
		{"table", "table", badNone, "table 0 1"},
		{"table 1 1", "table", badArg, "table 0 1"},
		{"table 0 2", "table", badArg, "table 0 1"},
		{"table 0 1 5 3", "table", badArg, "table 0 1 5 2"},
		{"table 0 1 0 2", "table", badOrder, "table 0 1 1 2"},
		{"table 0 1 5 2 5 3", "table", badOrder, "table 0 1 5 2 6 3"},
		{"table 0 1 1000001 2", "table", badRange, "table 0 1 1000000 2"},
		{"bands -1 0 1", "bands", badRange, "bands 0 0 1"},
		{"bands 10001 0 1", "bands", badRange, "bands 10000 0 1"},
		{"bands 0 -1 1", "bands", badRange, "bands 0 0 1"},
		{"bands 0 10001 1", "bands", badRange, "bands 0 10000 1"},
		{"bands 0 0 0", "bands", badRange, "bands 0 0 1"},
		{"bands 0 0 1000001", "bands", badRange, "bands 0 0 1000000"},
		{"auction 0 0", "auction", badRange, "auction 1 0"},
		{"auction 1000001 0", "auction", badRange, "auction 1000000 0"},
		{"auction 1 -1", "auction", badRange, "auction 1 0"},
		{"auction 1 11", "auction", badRange, "auction 1 10"},
	} {
		x := talks(t, "table 0 1", "table", "bands 0 0 1", "bands", "auction 1 0", "auction", c.line, c.answer, "start", c.want)
		for _, line := range behindLines {
			x.say(line, badState)
		}
		x.say("start", c.want, c.mended, c.answer, "start", "start", "phase", "preopen", "start", badState).check()
	}
	// The first error that applies: the table's, then that of the rest.
	talks(t, "start", badNone, "table 0 1", "table", "start", badRange, "bands 0 0 1", "bands", "start", badRange, "auction 1 0", "auction", "start", "start").check()
}

// 10.1: bands and auction come to where they are told.
func TestBandsAndAuction(t *testing.T) {
	table := "table 0 1 1 2 2 3 90 5 99 7"
	// A tenth around 100, and a fifth of that at once; two ticks, made longer once.
	x := talks(t, table, "table", "bands 1000 200 100", "bands", "auction 2 1", "auction", "start", "start", "refs", "100 100").until(2)
	x.say("sell 1 1 103 5", "taken", "buy 2 1 103 5", "taken", "phase", "volatility", "quote", "103 5 0").until(3).say("phase", "volatility").until(4, "2 1 103 5").say("phase", "trading", "refs", "103 103")
	x.say("sell 3 1 120 5", "taken", "buy 4 1 120 5", "taken", "phase", "volatility").until(7).say("phase", "volatility").until(8).say("phase", "halt").check()
	// All a tenth wide, and no time more.
	x = talks(t, table, "table", "bands 100 1000 50", "bands", "bands 1000 1000 100", "bands", "auction 9 9", "auction", "auction 1 0", "auction", "start", "start").until(2)
	x.say("sell 1 1 110 5", "taken", "buy 2 1 110 5", "taken, 2 1 110 5", "refs", "100 110", "sell 3 1 111 1", "taken", "buy 4 2 0 1", "taken", "phase", "volatility").until(3).say("phase", "trading", "refs", "100 110").check()
}

// 10.1: behind clear all is as at first, with or without a market.
func TestClear(t *testing.T) {
	talks(t, "clear", "clear", "start", badNone).check()
	talks(t, "table 0 1", "table", "clear", "clear", "start", badNone).check()
	talks(t, "table 0 1", "table", "bands 0 0 1", "bands", "auction 1 0", "auction", "clear", "clear", "table 0 1", "table", "start", badRange, "auction 1 0", "auction", "start", badRange, "bands 0 0 1", "bands", "start", "start").check()
	talks(t, "table 0 1", "table", "bands 0 0 1", "bands", "auction 1 0", "auction", "clear", "clear", "table 0 1", "table", "bands 0 0 1", "bands", "start", badRange).check()
	for phase := range phaseWords() {
		x := in(t, phase)
		x.say("clear", "clear")
		for _, line := range behindLines {
			x.say(line, badState)
		}
		x.say("start", badNone).starts().empty("preopen").until(opens).empty("opening").check()
	}
	// Orders are gone, and their numbers may come again; prices are the first ones.
	x := starts(t).say("buy 1 1 102 2", "taken", "sell 2 1 102 2", "taken", "buy 3 4 100 2", "taken").until(trades, "1 2 102 2").say("refs", "102 102", "buy 4 1 99 1", "taken")
	x.say("clear 1", badForm, "clear x", badForm, "phase", "trading", "clear", "clear").starts().empty("preopen")
	x.say("buy 1 1 102 2", "taken", "buy 3 4 100 2", "taken", "buy 4 1 99 1", "taken", "orders 1", "1 1 102 2, 4 1 99 1", "parked", "3 4 100 2").check()
}

// 10.1: buy and sell with each error: nothing is changed by them, and of several the first one is told.
func TestOrderErrors(t *testing.T) {
	for _, word := range []string{"buy", "sell"} {
		x := in(t, api.Opening)
		x.say(
			word+" 0 1 100 1", badArg,
			word+" -1 1 100 1", badArg,
			word+" 1 0 100 1", badArg,
			word+" 1 5 100 1", badArg,
			word+" 1 -1 0 0", badArg,
			word+" 1 1 0 1", badRange,
			word+" 1 1 -5 1", badRange,
			word+" 1 1 1000001 1", badRange,
			word+" 1 1 100 0", badRange,
			word+" 1 1 100 -1", badRange,
			word+" 1 1 100 1000001", badRange,
			word+" 1 2 0 0", badRange,
		).empty("opening").say(
			word+" 1 2 -7 1000000", "taken",
			word+" 1 2 -7 1", badTwice,
			word+" 1 1 0 1", badRange,
			word+" 1 9 1 1", badArg,
			word+" 2 4 1 1", "taken",
			word+" 2 1 1 1", badTwice,
			word+" 3 3 1000000 1", "taken",
		).check()
		for phase, told := range phaseWords() {
			x = in(t, phase)
			for kind, ok := range takes(phase) {
				if !ok {
					x.say(fmt.Sprintf("%s 1 %d 100 1", word, kind+1), badState, fmt.Sprintf("%s 1 %d 100 0", word, kind+1), badRange)
				}
			}
			x.empty(told).check()
		}
	}
}

// takes is which kinds may come in a phase.
func takes(phase int) [4]bool {
	switch phase {
	case api.PreOpen:
		return [4]bool{true, false, true, true}
	case api.Opening, api.Volatility, api.Closing:
		return [4]bool{true, true, true, true}
	case api.Trading:
		return [4]bool{true, true, false, true}
	}
	return [4]bool{}
}

// 10.1: ErrFull, if MaxBook orders lie or wait; and orders of all of them.
func TestFull(t *testing.T) {
	x := starts(t)
	var buys, sells, parked []string
	for id := 1; id <= api.MaxBook; id++ {
		switch {
		case id%10 == 0:
			x.say(fmt.Sprintf("buy %d 4 100 %d", id, id), "taken")
			parked = append(parked, fmt.Sprintf("%d 4 100 %d", id, id))
		case id%2 == 0:
			x.say(fmt.Sprintf("sell %d 3 101 %d", id, id), "taken")
			sells = append(sells, fmt.Sprintf("%d 3 101 %d", id, id))
		default:
			x.say(fmt.Sprintf("buy %d 1 99 %d", id, id), "taken")
			buys = append(buys, fmt.Sprintf("%d 1 99 %d", id, id))
		}
	}
	lists := []string{"orders 1", strings.Join(buys, ", "), "orders 2", strings.Join(sells, ", "), "parked", strings.Join(parked, ", ")}
	x.say(lists...).say("buy 101 1 100 1", badFull, "sell 101 4 100 1", badFull, "sell 100 1 100 1", badTwice).say(lists...)
	x.say("cancel 100", "cancel", "sell 101 4 100 1", "taken", "sell 102 4 100 1", badFull).check()
}

// 10.1: what comes is of its side, kind, price and lots, as the line says.
func TestOrders(t *testing.T) {
	in(t, api.Opening).say(
		"buy 5 1 101 7", "taken",
		"orders 1", "5 1 101 7",
		"orders 2", "",
		"sell 6 3 102 8", "taken",
		"orders 1", "5 1 101 7",
		"orders 2", "6 3 102 8",
		"buy 7 2 77 9", "taken",
		"buy 8 1 103 1", "taken",
		"buy 9 1 101 2", "taken",
		"sell 10 1 101 3", "taken",
		"sell 11 4 90 4", "taken",
		"buy 12 4 91 5", "taken",
		"orders 1", "7 2 1 9, 8 1 103 1, 5 1 101 7, 9 1 101 2",
		"orders 2", "10 1 101 3, 6 3 102 8",
		"parked", "11 4 90 4, 12 4 91 5",
		"orders 0", badArg,
		"orders 3", badArg,
		"orders -1", badArg,
		"orders", badForm,
		"orders 1 2", badForm,
		"parked 1", badForm,
	).check()
}

// 10.1: taken, and the fills: none, one, several, for one who buys and for one who sells.
func TestFills(t *testing.T) {
	x := in(t, api.Trading).say(
		"sell 1 1 101 5", "taken",
		"buy 2 2 0 2", "taken, 2 1 101 2",
		"orders 2", "1 1 101 3",
		"sell 3 1 102 4", "taken",
		"sell 4 1 101 1", "taken",
		"buy 5 1 102 7", "taken, 5 1 101 3, 5 4 101 1, 5 3 102 3",
		"orders 1", "",
		"orders 2", "3 1 102 1",
		"refs", "100 102",
		"buy 6 1 102 3", "taken, 6 3 102 1",
		"orders 1", "6 1 102 2",
		"buy 7 1 101 2", "taken",
		"sell 8 1 100 9", "taken, 6 8 102 2, 7 8 101 2",
		"orders 1", "",
		"orders 2", "8 1 100 5",
		"sell 8 1 100 9", badTwice,
		"quote", "0 0 0",
		"phase", "trading",
	)
	x.check()
	// One trades, and is stopped then.
	in(t, api.Trading).say("sell 1 1 101 1", "taken", "sell 2 1 109 1", "taken", "buy 3 1 110 5", "taken, 3 1 101 1", "phase", "volatility", "orders 1", "3 1 110 4", "quote", "110 1 3").check()
}

// 10.1: cancel of one that lies, that waits, of none; of one twice; when the day has Ended.
func TestCancel(t *testing.T) {
	for phase, word := range phaseWords() {
		x := starts(t).say("buy 1 1 99 1", "taken", "sell 2 1 101 2", "taken", "buy 3 4 99 3", "taken", "sell 4 4 101 4", "taken")
		switch phase {
		case api.PreOpen:
		case api.Opening:
			x.until(opens)
		case api.Closing:
			x.until(closes)
		case api.Ended:
			x.until(ends)
		default:
			x.until(trades)
		}
		if phase == api.Halt || phase == api.Volatility {
			x.say("halt", "halt")
		}
		if phase == api.Volatility {
			x.say("open", "open")
		}
		x.say("phase", word)
		if phase == api.Ended {
			for id := range 6 {
				x.say(fmt.Sprint("cancel ", id), badState)
			}
			x.empty(word).check()
			continue
		}
		x.say("cancel 5", badMissing, "cancel 0", badMissing, "cancel -1", badMissing)
		for id := 1; id <= 4; id++ {
			x.say(fmt.Sprint("cancel ", id), "cancel", fmt.Sprint("cancel ", id), badMissing)
		}
		x.empty(word).check()
	}
	starts(t).say("buy 1 1 99 1", "taken", "buy 2 1 98 2", "taken", "buy 3 4 98 3", "taken", "buy 4 4 98 3", "taken").
		say("cancel 1", "cancel", "orders 1", "2 1 98 2", "parked", "3 4 98 3, 4 4 98 3", "cancel 3", "cancel", "orders 1", "2 1 98 2", "parked", "4 4 98 3", "buy 1 1 99 1", badTwice, "buy 3 4 98 3", badTwice).check()
}

// 10.1: tick tells Now, and the fills of an auction; when the day has Ended it is an error.
func TestTick(t *testing.T) {
	x := starts(t).say("buy 1 1 102 5", "taken", "sell 2 1 101 3", "taken", "sell 3 3 102 1", "taken", "sell 4 3 103 1", "taken", "quote", "102 4 1").until(opens).say("quote", "102 4 1")
	x.until(trades, "1 2 102 3", "1 3 102 1").say("refs", "102 102", "orders 1", "1 1 102 1", "orders 2", "", "sell 5 4 102 1", "taken", "quote", "0 0 0").until(closes)
	x.say("phase", "closing", "orders 2", "5 4 102 1", "parked", "", "quote", "102 1 0").until(ends, "1 5 102 1").emptyAt("ended", "102 102")
	x.say("tick", badState, "tick", badState, "tick 1", badForm).emptyAt("ended", "102 102").check()
}

// 10.1: halt and open in each phase.
func TestHaltAndOpen(t *testing.T) {
	for phase, word := range phaseWords() {
		halted := in(t, phase)
		if phase == api.Halt || phase == api.Ended {
			halted.say("halt", badState).empty(word).check()
		} else {
			halted.say("halt", "halt").empty("halt").say("halt", badState, "open", "open")
			if phase == api.Trading {
				word = "volatility"
			}
			halted.empty(word).check()
		}
		if opened := in(t, phase); phase == api.Halt {
			opened.say("open", "open").empty("volatility").say("open", badState).check()
		} else {
			opened.say("open", badState).empty(phaseWords()[phase]).check()
		}
	}
	// Who waits lies from Closing on, also if that is opened.
	starts(t).say("buy 1 4 100 1", "taken", "sell 2 4 99 2", "taken", "halt", "halt").until(closes).say("phase", "halt", "parked", "1 4 100 1, 2 4 99 2", "open", "open", "phase", "closing", "parked", "", "orders 1", "1 4 100 1", "quote", "99 1 -1").until(ends, "1 2 99 1").check()
}

// 10.1: quote has its three numbers, of which the last one may be below 0.
func TestQuote(t *testing.T) {
	starts(t).say(
		"quote", "0 0 0",
		"buy 1 1 104 5", "taken",
		"quote", "0 0 0",
		"sell 2 1 98 3", "taken",
		"quote", "104 3 2",
		"sell 3 1 97 4", "taken",
		"quote", "98 5 -2",
		"cancel 3", "cancel",
		"buy 4 1 104 1000000", "taken",
		"quote", "104 3 1000002",
		"quote 1", badForm,
	).check()
}

// 10.1: band tells low and high, or its error, whether or not there is a market.
func TestBand(t *testing.T) {
	lines := []string{
		"band 50 1000", "45 55",
		"band 1 0", "1 1",
		"band 1 10000", "1 2",
		"band 1000000 10000", "1 1000000",
		"band 1000000 1", "999900 1000000",
		"band 99 101", "99 99",
		"band 100 199", "99 101",
		"band 0 1", badRange,
		"band -1 1", badRange,
		"band 1000001 1", badRange,
		"band 50 -1", badRange,
		"band 50 10001", badRange,
		"band 50", badForm,
		"band 50 1 1", badForm,
	}
	x := talks(t, lines...).say("start", badNone).starts().say(lines...).empty("preopen").until(ends).say(lines...).empty("ended")
	x.say("clear", "clear").say(lines...).check()
}

// 10.1: help tells all words, whether or not there is a market.
func TestHelp(t *testing.T) {
	talks(t, "help", help, "help help", badForm).starts().say("help", help, "help 1", badForm).empty("preopen").until(ends).say("help", help, "clear", "clear", "help", help).check()
	for _, word := range strings.Fields(help) {
		n, plain := words()[word]
		if got := desk.Session(numbered(word, n)); got == badForm+"\n" || !plain && word != "table" {
			t.Errorf("%q is no word of a line: %q", word, got)
		}
	}
	if n := len(strings.Fields(help)); n != len(words())+1 {
		t.Errorf("help tells %d words", n)
	}
}

// 10.1, P4: a session is told nothing of those before.
func TestSessionsApart(t *testing.T) {
	first := starts(t).say("buy 1 1 100 1", "taken").until(trades)
	for range 3 {
		first.check()
		answers(t, "phase\nstart\ntick", badState+"\n"+badNone+"\n"+badState+"\n")
	}
}

// The document's examples, by text.
func TestExamples(t *testing.T) {
	talks(t, "band 50 1000", "45 55").check()
	starts(t).say("buy 1 1 5 3", "taken", "buy 2 1 7 3", "taken", "orders 1", "2 1 7 3, 1 1 5 3").check()
	talks(t, "table 0 1", "table", "bands 0 0 9", "bands", "auction 1 0", "auction", "start", "start", "buy 1 1 10 5", "taken", "sell 2 1 8 3", "taken", "quote", "10 3 2").check()
	in(t, api.Trading).say("sell 1 1 101 5", "taken", "buy 2 2 0 2", "taken, 2 1 101 2").check()
}
