package tests

import (
	"slices"
	"strings"
	"testing"

	"loop.example/g00643/impl"
)

// wrongNumbers are what no N is, and no blank or line feed in it.
func wrongNumbers() []string {
	return []string{"", "00", "01", "000000001", "0123456789", "1234567890", "1000000000", "9999999999", "0000000000", "18446744073709551617", strings.Repeat("1", 300),
		"-", "-0", "-1", "+", "+0", "+1", "a", "1a", "a1", "x", "1.0", "1.", ".1", "1e1", "0x1", "0b1", "0o1", "1_0", "1,0", "1\t", "\t1", "1\r", "1\x00", "\x00", "\xff", "1\xff", "\u0661", "\uff11", "\u00b2"}
}

// numberPlaces are the places of the words that are N.
func numberPlaces(line string) []int {
	words := strings.Split(line, " ")
	if words[0] == "send" {
		return []int{1, 2, 3}
	}
	var out []int
	for at := 1; at < len(words); at++ {
		out = append(out, at)
	}
	return out
}

func withWord(line string, at int, word string) string {
	words := strings.Split(line, " ")
	words[at] = word
	return strings.Join(words, " ")
}

func linesOfWrongWords() []string {
	out := []string{"", " ", "  ", "x", "1", "-", "ok", "error 6", "open 1", "1 init", "\thelp", "help\r", "help\x00", "\xff", "\xffhelp", "help,help", "send", "init", "\ufeffhelp"}
	for _, line := range rightLines() {
		word, rest, _ := strings.Cut(line, " ")
		for _, other := range []string{strings.ToUpper(word), strings.ToUpper(word[:1]) + word[1:], word[:len(word)-1], word[1:], word + "s", word + "\t", word + ":", ""} {
			out = append(out, strings.TrimSuffix(other+" "+rest, " "))
		}
	}
	return out
}

func linesOfWrongBlanks() []string {
	var out []string
	for _, line := range rightLines() {
		cut := line[:strings.LastIndex(line, " ")+1]
		out = append(out, " "+line, line+" ", "  "+line, line+"  ", "\t"+line, cut, cut+" ", cut+" "+line)
		for at := range len(line) {
			if line[at] == ' ' {
				out = append(out, line[:at]+" "+line[at:], line[:at]+"\t"+line[at+1:], line[:at]+line[at+1:])
			}
		}
	}
	return out
}

// linesOfWrongCounts have one word too few, or one too many, or two, at any
// place; what is left out last of send is its TEXT.
func linesOfWrongCounts() []string {
	var out []string
	for _, line := range rightLines() {
		words := strings.Split(line, " ")
		for at := range words {
			if at > 0 {
				out = append(out, strings.Join(slices.Delete(slices.Clone(words), at, at+1), " "))
			}
			for _, more := range []string{"0", "1", "hi", "help"} {
				out = append(out, strings.Join(slices.Insert(slices.Clone(words), at+1, more), " "))
			}
		}
		out = append(out, line+" 1 1", words[0]+" "+line)
	}
	return out
}

func linesOfWrongNumbers() []string {
	var out []string
	for _, line := range rightLines() {
		for _, at := range numberPlaces(line) {
			for _, word := range wrongNumbers() {
				out = append(out, withWord(line, at, word))
			}
		}
	}
	return out
}

// Promise 10: a line that is none of the table's is refused, wherever it
// stands, and nothing is told of those ahead of it.
func TestDeskRefusesWrongLines(t *testing.T) {
	for _, wrong := range slices.Concat(linesOfWrongWords(), linesOfWrongBlanks(), linesOfWrongCounts(), linesOfWrongNumbers()) {
		what := short(wrong)
		holdsFault(t, what+", alone", deskText(wrong), 0, impl.ErrSyntax)
		holdsFault(t, what+", first", deskText(wrong, "help"), 0, impl.ErrSyntax)
		holdsFault(t, what+", in the midst", deskText("init 1", "help", wrong, "help"), 2, impl.ErrSyntax)
		holdsFault(t, what+", last", deskText("init 1", wrong), 1, impl.ErrSyntax)
		holdsFault(t, what+", where most are", deskText(append(repeated("help", 39), wrong)...), 39, impl.ErrSyntax)
	}
}

// The first one is told, whatever is wrong with those behind it.
func TestDeskTellsTheFirstFault(t *testing.T) {
	holdsFault(t, "two of a kind", deskText("help", "x", "help", "x"), 1, impl.ErrSyntax)
	holdsFault(t, "several kinds", deskText("help", "init 1", "init 01", "begin 1", "", "help "), 2, impl.ErrSyntax)
	holdsFault(t, "and no line feed at the end", deskText("help", "Help", "help")+"help", 1, impl.ErrSyntax)
	holdsFault(t, "and too many", deskText(append([]string{"help", "help x"}, repeated("help", 60)...)...), 1, impl.ErrSyntax)
	holdsFault(t, "wrong, and no line feed", deskText("help", "help")+"x", 2, impl.ErrSyntax)
	for first := range 45 {
		lines := repeated("help", 45)
		lines[first], lines[44] = "help 1", "help 1"
		holdsFault(t, "one of 45 lines", deskText(lines...), min(int64(first), 40), impl.ErrSyntax)
	}
}

func TestDeskLineFeeds(t *testing.T) {
	same(t, "no byte", impl.DeskRun(""), impl.DeskOut{})
	same(t, "no byte", impl.DeskFault(""), impl.DeskOut{})
	holdsFault(t, "a line feed alone", "\n", 0, impl.ErrSyntax)
	holdsFault(t, "line feeds alone", "\n\n\n", 0, impl.ErrSyntax)
	holdsFault(t, "an empty line first", "\nhelp\n", 0, impl.ErrSyntax)
	holdsFault(t, "an empty line in the midst", "help\n\nhelp\n", 1, impl.ErrSyntax)
	holdsFault(t, "an empty line last", "help\n\n", 1, impl.ErrSyntax)
	holdsFault(t, "carriage returns", "help\r\nhelp\r\n", 0, impl.ErrSyntax)
	for _, line := range rightLines() {
		holdsFault(t, line+" without its line feed", line, 0, impl.ErrSyntax)
		holdsFault(t, line+" without its line feed, last", "help\ntick 0\n"+line, 2, impl.ErrSyntax)
	}
}

func TestDeskCountsLines(t *testing.T) {
	most := deskText(repeated("help", 40)...)
	same(t, "40 lines", impl.DeskRun(most), impl.DeskOut{Text: strings.Repeat("error 6\n", 40)})
	same(t, "40 lines", impl.DeskFault(most), impl.DeskOut{})
	same(t, "39 lines", impl.DeskFault(most[5:]), impl.DeskOut{})
	for _, behind := range []string{"help\n", "help", "h", "x", "x\n", "\n", " ", "\x00", "help\nhelp\n", "\n\n", strings.Repeat("help\n", 100), strings.Repeat("\n", 1000)} {
		holdsFault(t, "40 lines and "+short(behind), most+behind, 40, impl.ErrSyntax)
	}
	holdsFault(t, "the last of 40 lacks its line feed", most[:len(most)-1], 39, impl.ErrSyntax)
	same(t, "constant of chapter 8", int64(impl.MaxDesk), 40)
}

// A desk's text may have MaxBytes bytes; that it has more is told ahead of all
// else.
func TestDeskSize(t *testing.T) {
	front := deskText("init 1", "begin 1 1") + "send 1 1 0 "
	for _, size := range []int{impl.MaxBytes - 1, impl.MaxBytes} {
		text := front + strings.Repeat("x", size-len(front)-1) + "\n"
		same(t, "as many as may be", len(text), size)
		same(t, "as many as may be", impl.DeskRun(text), impl.DeskOut{Text: "1\n1\nerror 1\n"})
		same(t, "as many as may be", impl.DeskFault(text), impl.DeskOut{})
		holdsFault(t, "as many as may be, no line feed", text[:size-1]+"x", 2, impl.ErrSyntax)
		holdsFault(t, "as many as may be, a wrong line", "help\nx"+text[6:], 1, impl.ErrSyntax)
	}
	for _, size := range []int{impl.MaxBytes + 1, impl.MaxBytes + 2, 3 * impl.MaxBytes} {
		text := front + strings.Repeat("x", size-len(front)-1) + "\n"
		holdsFault(t, "too many", text, 0, impl.ErrSize)
		holdsFault(t, "too many, no line feed", text[:size-1]+"x", 0, impl.ErrSize)
		holdsFault(t, "too many, a wrong line", "help\nx"+text[6:], 0, impl.ErrSize)
		holdsFault(t, "too many, line feeds alone", strings.Repeat("\n", size), 0, impl.ErrSize)
		holdsFault(t, "too many, and lines too", strings.Repeat("help\n", size), 0, impl.ErrSize)
	}
	holdsFault(t, "line feeds alone", strings.Repeat("\n", impl.MaxBytes), 0, impl.ErrSyntax)
	holdsFault(t, "lines too many", strings.Repeat("help\n", impl.MaxBytes/5), 40, impl.ErrSyntax)
}

// N of any value that is written as the chapter says is right, wherever it
// stands.
func TestDeskNumbers(t *testing.T) {
	for _, line := range rightLines() {
		for _, at := range numberPlaces(line) {
			for _, word := range []string{"0", "1", "9", "10", "100", "99999999", "100000000", "123456789", "999999999"} {
				lines := []string{"init 1", "begin 1 1", withWord(line, at, word)}
				same(t, short(lines[2]), strings.Join(toldBy(t, lines), ";"), strings.Join(wantTold(lines), ";"))
			}
		}
	}
}

// TEXT is any word: each byte but a blank and a line feed, alone and in the
// midst, and as many as a line has room for.
func TestDeskTexts(t *testing.T) {
	texts := []string{"hi", "0", "00", "-1", "-", ",", "a,b", "error", "help", strings.Repeat("x", 15), strings.Repeat("x", 16), strings.Repeat("\xff", 16), "\u00e9\u20ac", "\xe2\x82", "\xed\xa0\x80", "\u2028", "\u00a0", "\u3000"}
	for value := range 256 {
		if value != ' ' && value != '\n' {
			texts = append(texts, string([]byte{byte(value)}), string([]byte{'a', byte(value), 'b'}), string([]byte{byte(value), byte(value)}))
		}
	}
	for _, text := range texts {
		talk(t, "TEXT "+short(text), "init 3 -> 1", "begin 3 1 -> 1", "join 1 1 -> ok", "send 3 1 1 "+text+" -> 0", "loose 1 1 -> "+text, "leave 1 1 -> ok", "join 1 1 -> ok", "commit 3 1 -> 1", "poll 1 1 -> -")
		talk(t, "TEXT "+short(text), "init 3 -> 1", "begin 3 1 -> 1", "join 1 1 -> ok", "send 3 1 1 "+text+" -> 0", "commit 3 1 -> 1", "poll 1 1 -> "+text)
	}
	for _, text := range []string{strings.Repeat("x", 17), strings.Repeat("\xff", 17), strings.Repeat("\u00e9", 9), strings.Repeat("y", 401), strings.Repeat("z", 3900)} {
		talk(t, "TEXT "+short(text), "init 3 -> 1", "begin 3 1 -> 1", "send 3 1 1 "+text+" -> error 1", "send 3 2 1 "+text+" -> error 1", "send 3 1 1 x -> 0")
	}
}
