package desk_test

import (
	"fmt"
	"strings"
	"testing"

	"openbell/api"
	"openbell/desk"
)

// Errors, as a line is answered.
const (
	badArg     = "error 1"
	badRange   = "error 2"
	badForm    = "error 3"
	badLimit   = "error 4"
	badState   = "error 6"
	badMissing = "error 7"
	badNone    = "error 8"
	badTwice   = "error 9"
	badOrder   = "error 10"
	badFull    = "error 12"
)

const help = "auction band bands buy cancel clear halt help open orders parked phase quote refs sell start table tick"

// When the phases of the day begin that starts tells.
const (
	opens  = 2
	trades = 4
	closes = 30
	ends   = 33
)

// talk is lines, and what they are to be answered.
type talk struct {
	t           *testing.T
	lines, want []string
	now         int // its market's tick
}

// talks is a talk of lines and answers by turns.
func talks(t *testing.T, l ...string) *talk {
	return (&talk{t: t}).say(l...)
}

// say adds lines and answers by turns.
func (x *talk) say(l ...string) *talk {
	for i := 0; i < len(l); i += 2 {
		x.lines = append(x.lines, l[i])
		x.want = append(x.want, l[i+1])
	}
	return x
}

// starts is a talk in which a market has begun: prices may go from 90 to 110, and from the last one half a tenth at once; a volatility auction lasts three ticks, and may be made longer once.
func starts(t *testing.T) *talk {
	return talks(t).starts()
}

func (x *talk) starts() *talk {
	x.now = 0
	return x.say("table 0 1 2 2 4 3 30 5 33 7", "table", "bands 1000 500 100", "bands", "auction 3 1", "auction", "start", "start")
}

// until lets ticks go by up to one; what the last of them trades is told behind it.
func (x *talk) until(now int, fills ...string) *talk {
	for x.now < now {
		x.now++
		want := fmt.Sprint(x.now)
		if x.now == now {
			want = strings.Join(append([]string{want}, fills...), ", ")
		}
		x.say("tick", want)
	}
	return x
}

// in is a talk with a market without orders, in a phase.
func in(t *testing.T, phase int) *talk {
	x := starts(t)
	switch phase {
	case api.Opening:
		x.until(opens)
	case api.Trading, api.Volatility, api.Halt:
		x.until(trades)
	case api.Closing:
		x.until(closes)
	case api.Ended:
		x.until(ends)
	}
	if phase == api.Volatility || phase == api.Halt {
		x.say("halt", "halt")
	}
	if phase == api.Volatility {
		x.say("open", "open")
	}
	return x
}

// check asks all lines at once, with and without a line feed at their end.
func (x *talk) check() {
	x.t.Helper()
	for _, text := range texts(x.lines) {
		got := strings.Split(desk.Session(text), "\n")
		if len(got) != len(x.want)+1 || got[len(x.want)] != "" {
			x.t.Fatalf("%.500q: %d answers, want %d", text, len(got)-1, len(x.want))
		}
		for i, want := range x.want {
			if got[i] != want {
				x.t.Fatalf("%.500q, line %d: %q is answered %q, want %q", text, i, x.lines[i], got[i], want)
			}
		}
	}
}

// texts are those of which lines are made: without a line feed at the end, if the last one is not empty, and with one.
func texts(lines []string) []string {
	text := strings.Join(lines, "\n")
	if lines[len(lines)-1] == "" {
		return []string{text + "\n"}
	}
	return []string{text, text + "\n"}
}

// answers checks the whole answer to a text.
func answers(t *testing.T, text, want string) {
	t.Helper()
	if got := desk.Session(text); got != want {
		t.Fatalf("%.200q (%d bytes): %.200q, want %.200q", text, len(text), got, want)
	}
}

// words has all words that a line may begin with, each with how many numbers stand behind it; table is not among them.
func words() map[string]int {
	return map[string]int{
		"bands": 3, "auction": 2, "start": 0, "buy": 4, "sell": 4, "cancel": 1, "tick": 0, "halt": 0, "open": 0, "phase": 0,
		"quote": 0, "refs": 0, "orders": 1, "parked": 0, "band": 2, "clear": 0, "help": 0,
	}
}

// 10.1: a text of MaxText bytes is answered, one of one more is not, whatever stands in it.
func TestTextsLength(t *testing.T) {
	for _, c := range []struct{ part, answer string }{
		{"x", badForm + "\n"},
		{" ", "ok\n"},
		{"\xff", badForm + "\n"},
		{"\n", strings.Repeat("ok\n", api.MaxText)},
		{"help\n", strings.Repeat(help+"\n", api.MaxText/5)},
	} {
		text := strings.Repeat(c.part, api.MaxText/len(c.part))
		if len(text) != api.MaxText {
			t.Fatalf("%d bytes", len(text))
		}
		answers(t, text, c.answer)
		for _, more := range []string{"\n", " ", "x", c.part, text} {
			answers(t, text+more, badLimit+"\n")
			answers(t, more+text, badLimit+"\n")
		}
	}
	// It is bytes that are told, not runes.
	wide := strings.Repeat("é", api.MaxText/2)
	answers(t, wide, badForm+"\n")
	answers(t, wide+"é", badLimit+"\n")
	answers(t, strings.Repeat(" ", api.MaxText-4)+"help", help+"\n")
	answers(t, strings.Repeat(" ", api.MaxText-3)+"help", badLimit+"\n")
}

// 10.1: a text is cut at line feeds, and one at its end is left out; each line is answered by a line.
func TestLines(t *testing.T) {
	for text, want := range map[string]string{
		"":                 "ok\n",
		"\n":               "ok\n",
		"\n\n":             "ok\nok\n",
		"\n\n\n":           "ok\nok\nok\n",
		" ":                "ok\n",
		" \n":              "ok\n",
		" \n \n":           "ok\nok\n",
		"help":             help + "\n",
		"help\n":           help + "\n",
		"help\n\n":         help + "\nok\n",
		"help\n\n\n":       help + "\nok\nok\n",
		"\nhelp":           "ok\n" + help + "\n",
		"\nhelp\n":         "ok\n" + help + "\n",
		"\n\nhelp":         "ok\nok\n" + help + "\n",
		"help\nhelp":       help + "\n" + help + "\n",
		"help\n\nx\n":      help + "\nok\n" + badForm + "\n",
		"band 50\n1000":    badForm + "\n" + badForm + "\n",
		"help\r\nhelp\n":   badForm + "\n" + help + "\n",
		"help\rhelp":       badForm + "\n",
		"help\u2028help\n": badForm + "\n",
		"x\ny\nclear":      badForm + "\n" + badForm + "\nclear\n",
	} {
		answers(t, text, want)
	}
}

// 10.1: words with blanks between, several too, and at both ends; a line without words is answered ok.
func TestBlanks(t *testing.T) {
	for _, n := range []int{1, 2, 3, 10, 1000} {
		b := strings.Repeat(" ", n)
		talks(t,
			b, "ok",
			b+"help", help,
			"help"+b, help,
			b+"help"+b, help,
			"band"+b+"50"+b+"1000", "45 55",
			b+"band 50"+b+"1000"+b, "45 55",
			"table"+b, "table",
			b+"table"+b+"0"+b+"1", "table",
			b+"start"+b, badRange,
			"", "ok",
			b+"x"+b, badForm,
			"he"+b+"lp", badForm,
		).check()
	}
	// A line without words changes nothing, wherever it stands.
	starts(t).say("", "ok", "  ", "ok", "phase", "preopen", "", "ok").until(opens).say(" ", "ok", "phase", "opening").check()
}

// 10.1: other white space than blanks is no blank, and part of a word.
func TestOtherWhiteSpace(t *testing.T) {
	for _, s := range []string{"\t", "\r", "\v", "\f", "\x00", "\x1f", "\x7f", "\x85", "\xa0", "\xff", "\u0085", "\u00a0", "\u1680", "\u2003", "\u2028", "\u202f", "\u3000", "\ufeff", ",", ";"} {
		talks(t,
			s, badForm,
			" "+s, badForm,
			s+" ", badForm,
			s+"help", badForm,
			"help"+s, badForm,
			"help "+s, badForm,
			s+" help", badForm,
			"band"+s+"50"+s+"1000", badForm,
			"band"+s+"50 1000", badForm,
			"band 50"+s+"1000", badForm,
			"band 50 "+s+"1000", badForm,
			"band 50 1000"+s, badForm,
			"band 50 1000 "+s, badForm,
			"help", help,
		).check()
	}
}

// 10.1: ErrForm, unless the first word is one of the table's.
func TestFirstWord(t *testing.T) {
	for _, x := range []*talk{talks(t), starts(t)} {
		for _, s := range []string{
			"x", "0", "1", "-1", "ok", "error", "taken", "preopen", "trading", "ended", "volatility", "stop", "order", "now", "side",
			"HELP", "Help", "helpx", "hel", "xhelp", "help.", "tick,", "bandss", "buys", "auctions", "tables", "\xffhelp", "héLp", "hélp", "ＨＥＬＰ",
		} {
			x.say(s, badForm, s+" 1", badForm, s+" help", badForm, s+" 0 1", badForm, "1 "+s, badForm)
		}
		x.check()
	}
}

// numbered is a word with so many numbers behind it.
func numbered(word string, n int) string { return word + strings.Repeat(" 1", n) }

// 10.1: ErrForm, unless just so many words stand behind the first one, whether or not there is a market.
func TestHowManyWords(t *testing.T) {
	for _, x := range []*talk{talks(t), starts(t), in(t, api.Ended)} {
		for word, right := range words() {
			for n := range 9 {
				if n != right {
					x.say(numbered(word, n), badForm)
				}
			}
			x.say(numbered(word, 300), badForm, word+" "+word, badForm)
		}
		x.say(help, badForm)
		for n := 1; n < 50; n += 2 {
			x.say(numbered("table", n), badForm)
		}
		x.check()
	}
}

// 10.1: all words behind the first one are numbers, or it is ErrForm; each of them is looked at.
func TestNumbersAtEachPlace(t *testing.T) {
	for _, x := range []*talk{talks(t), starts(t)} {
		all := words()
		all["table"] = 6
		for word, n := range all {
			for i := range n {
				for _, bad := range []string{"x", "-", "01", "+1", "1.0", "9223372036854775808", word} {
					l := strings.Fields(numbered(word, n))
					l[i+1] = bad
					x.say(strings.Join(l, " "), badForm)
				}
			}
		}
		x.check()
	}
}

// 10.1, P5: what is a number, and what is none. A Band of one that is no price is beyond what there is.
func TestNumbers(t *testing.T) {
	for _, good := range []string{
		"0", "-1", "-9", "-10", "1000001", "2147483648", "4294967297", "-2147483649", "9223372036854775806", "9223372036854775807",
		"-9223372036854775807", "-9223372036854775808",
	} {
		talks(t, "band "+good+" 0", badRange, "band "+good+" "+good, badRange).check()
	}
	talks(t, "band 1 0", "1 1", "band 1 10001", badRange, "band 1 -1", badRange, "band 1 9223372036854775807", badRange, "band 1 -9223372036854775808", badRange).check()
	for _, bad := range []string{
		"-0", "00", "01", "-01", "007", "-00", "000000000000000000000", "00000000000000000001", "+0", "+1", "+", "-", "--1", "+-1", "-+1", "1-", "1+", "-1-",
		"9223372036854775808", "-9223372036854775809", "18446744073709551615", "18446744073709551616", "18446744073709551617",
		"99999999999999999999999999", "-99999999999999999999999999", strings.Repeat("1", 1000),
		"x", "1x", "x1", "0x1", "0b1", "0o1", "1e3", "1.0", "1.", ".1", "1_0", "1,000", "1/1", "nan", "inf", "true", "''", `"1"`, "'1'", "(1)",
		"١", "１", "−1", "–1", "¹", "Ⅷ", "1\x00", "\x001", "1\xff", "\xff", "1\t",
	} {
		talks(t, "band "+bad+" 0", badForm, "band 1 "+bad, badForm, "table "+bad+" 1", badForm, "table 0 "+bad, badForm, "table 0 1", "table", "start", badRange).check()
		starts(t).say("cancel "+bad, badForm, "orders "+bad, badForm, "buy "+bad+" 1 100 1", badForm, "sell 1 1 100 "+bad, badForm, "orders 1", "", "orders 2", "").check()
	}
}

// 10.1: a number of 64 bits comes to where it is told, whole.
func TestNumbersWhole(t *testing.T) {
	starts(t).say(
		"buy 9223372036854775807 1 100 1", "taken",
		"buy 9223372036854775806 1 100 1", "taken",
		"buy 4294967297 1 100 1", "taken",
		"orders 1", "9223372036854775807 1 100 1, 9223372036854775806 1 100 1, 4294967297 1 100 1",
		"cancel 1", badMissing,
		"cancel -1", badMissing,
		"cancel 9223372036854775807", "cancel",
		"cancel 9223372036854775807", badMissing,
		"cancel -9223372036854775808", badMissing,
		"buy -9223372036854775808 1 100 1", badArg,
		"buy -4294967295 1 100 1", badArg,
		"buy 1 4294967297 100 1", badArg,
		"buy 1 1 4294967396 1", badRange,
		"buy 1 1 100 4294967297", badRange,
		"buy 1 1 100 -9223372036854775808", badRange,
		"orders 4294967297", badArg,
		"orders 1", "9223372036854775806 1 100 1, 4294967297 1 100 1",
	).check()
	for _, n := range []string{"-9223372036854775808", "9223372036854775807", "4294967296", "-1"} {
		talks(t, "table 0 1", "table", "bands "+n+" 0 1", "bands", "auction 1 0", "auction", "start", badRange).
			say("bands 0 "+n+" 1", "bands", "start", badRange, "bands 0 0 "+n, "bands", "start", badRange).
			say("bands 0 0 1", "bands", "auction "+n+" 0", "auction", "start", badRange, "auction 1 "+n, "auction", "start", badRange).
			say("table "+n+" 1", "table", "start", badArg, "table 0 "+n, "table", "start", badArg).
			say("table 0 1", "table", "auction 1 0", "auction", "start", "start").check()
	}
}
