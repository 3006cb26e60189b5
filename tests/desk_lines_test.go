package tests

import (
	"fmt"
	"math/rand"
	"slices"
	"strings"
	"testing"

	"loop.example/g00643/impl"
)

// Promise 10, by hand: what each line of the table tells, and each code that it
// can tell at a desk.
func TestDeskInit(t *testing.T) {
	talk(t, "init", "init 1 -> 1", "init 4 -> 1", "init 1 -> 2", "init 0 -> error 1", "init 5 -> error 1", "init 999999999 -> error 1", "init 1 -> 3", "init 2 -> 1")
}

func TestDeskBegin(t *testing.T) {
	talk(t, "begin", "begin 1 0 -> error 11", "begin 1 1 -> error 11", "init 1 -> 1", "begin 1 0 -> error 11", "begin 1 2 -> error 11", "begin 0 1 -> error 1", "begin 5 1 -> error 1",
		"begin 1 1 -> 1", "begin 1 1 -> error 10", "begin 1 2 -> error 11", "init 2 -> 1", "begin 2 1 -> 2", "commit 1 1 -> 1", "begin 1 1 -> 3")
	talk(t, "late", "init 1 -> 1", "tick 999900 -> 0", "begin 1 1 -> 1", "tick 1 -> 0", "init 2 -> 1", "begin 2 1 -> error 1", "begin 2 9 -> error 1")
	pairs := []string{"init 1 -> 1"}
	for number := 1; number <= 12; number++ {
		pairs = append(pairs, fmt.Sprint("begin 1 1 -> ", number), fmt.Sprint("abort 1 1 -> ", number))
	}
	talk(t, "as many as may be", append(pairs, "begin 1 1 -> error 9", "begin 1 2 -> error 11", "begin 2 0 -> error 11")...)
}

// The life of what begins is 20.
func TestDeskLife(t *testing.T) {
	talk(t, "19", "init 1 -> 1", "begin 1 1 -> 1", "tick 19 -> 0", "send 1 1 0 a -> 0", "commit 1 1 -> 1")
	talk(t, "20", "init 1 -> 1", "begin 1 1 -> 1", "tick 20 -> 1", "send 1 1 0 a -> error 10", "commit 1 1 -> error 10", "tick 1 -> 0")
	talk(t, "one by one", "init 1 -> 1", "tick 7 -> 0", "begin 1 1 -> 1", "tick 10 -> 0", "init 2 -> 1", "begin 2 1 -> 2", "tick 9 -> 0", "tick 1 -> 1", "tick 9 -> 0", "tick 1 -> 1")
}

func TestDeskSend(t *testing.T) {
	talk(t, "send", "send 1 0 0 a -> error 11", "init 1 -> 1", "send 1 1 0 a -> error 10", "send 1 1 2 a -> error 8", "send 1 2 2 a -> error 11", "send 0 1 0 a -> error 1", "send 5 1 0 a -> error 1",
		"begin 1 1 -> 1", "send 1 1 0 a -> 0", "send 1 1 1 b -> 0", "send 1 1 0 c -> 1", "send 1 1 2 d -> error 8", "send 1 1 999999999 d -> error 8", "send 1 2 0 d -> error 11", "send 1 1 0 0123456789abcdefg -> error 1", "send 1 1 0 0123456789abcdef -> 2")
	talk(t, "room", "init 1 -> 1", "begin 1 1 -> 1", "send 1 1 1 a -> 0", "send 1 1 1 b -> 1", "send 1 1 1 c -> 2", "send 1 1 1 d -> 3", "send 1 1 1 e -> 4", "send 1 1 1 f -> 5", "send 1 1 1 g -> 6",
		"send 1 1 1 h -> error 9", "send 1 1 0 i -> 0", "commit 1 1 -> 1", "help -> 1", "help -> 1", "begin 1 1 -> 2", "send 1 1 1 j -> error 9", "send 1 1 0 k -> 2")
}

func TestDeskEnds(t *testing.T) {
	for _, word := range []string{"commit", "abort"} {
		talk(t, word, word+" 1 0 -> error 11", "init 1 -> 1", word+" 1 1 -> error 10", word+" 0 1 -> error 1", word+" 5 1 -> error 1", "begin 1 1 -> 1", word+" 1 2 -> error 11", word+" 1 1 -> 1",
			word+" 1 1 -> error 10", "init 2 -> 1", "begin 2 1 -> 2", "begin 1 1 -> 3", word+" 2 1 -> 2", word+" 1 1 -> 3")
	}
}

func TestDeskHelp(t *testing.T) {
	talk(t, "help", "help -> error 6", "init 1 -> 1", "init 2 -> 1", "begin 1 1 -> 1", "begin 2 1 -> 2", "send 2 1 1 a -> 0", "send 2 1 0 b -> 0", "send 1 1 1 c -> 1", "help -> error 6",
		"commit 2 1 -> 2", "abort 1 1 -> 1", "help -> 1", "help -> 2", "help -> 2", "help -> error 6", "begin 1 1 -> 3", "send 1 1 0 d -> 2", "send 1 1 1 e -> 4", "commit 1 1 -> 3", "help -> 3", "help -> 3", "help -> error 6")
}

func TestDeskTick(t *testing.T) {
	talk(t, "tick", "tick 0 -> 0", "tick 5 -> 0", "tick 999995 -> 0", "tick 1 -> error 1", "tick 0 -> 0")
	talk(t, "how many", "init 1 -> 1", "init 2 -> 1", "init 3 -> 1", "begin 1 1 -> 1", "begin 2 1 -> 2", "begin 3 1 -> 3", "commit 2 1 -> 2", "tick 1000001 -> error 1", "tick 999999999 -> error 1", "tick 0 -> 0", "tick 20 -> 2")
}

func TestDeskJoinAndLeave(t *testing.T) {
	talk(t, "join", "join 1 0 -> ok", "join 1 0 -> error 7", "join 1 1 -> ok", "join 1 2 -> error 8", "join 0 0 -> error 1", "join 10 0 -> error 1", "join 9 0 -> ok", "join 4 0 -> ok", "join 3 0 -> ok", "join 2 0 -> error 9", "join 2 1 -> ok", "join 3 0 -> error 7")
	talk(t, "leave", "leave 1 0 -> error 6", "leave 1 2 -> error 8", "leave 0 0 -> error 6", "leave 10 0 -> error 6", "join 1 1 -> ok", "leave 1 0 -> error 6", "leave 1 1 -> ok", "leave 1 1 -> error 6", "join 1 1 -> ok")
}

func TestDeskPollAndLoose(t *testing.T) {
	for _, word := range []string{"poll", "loose"} {
		talk(t, word, word+" 1 0 -> error 6", word+" 1 2 -> error 8", word+" 0 0 -> error 6", word+" 10 1 -> error 6", "join 1 0 -> ok", word+" 1 0 -> -", word+" 1 1 -> error 6", word+" 2 0 -> error 6",
			"init 1 -> 1", "begin 1 1 -> 1", "send 1 1 0 a -> 0", "commit 1 1 -> 1", word+" 1 0 -> a", word+" 1 0 -> -")
	}
	open := []string{"join 1 0 -> ok", "join 2 0 -> ok", "init 1 -> 1", "begin 1 1 -> 1", "send 1 1 0 a -> 0", "send 1 1 0 b -> 1", "send 1 1 0 a -> 2"}
	talk(t, "open", append(open, "poll 1 0 -> -", "loose 1 0 -> a,b,a", "loose 1 0 -> -", "poll 1 0 -> -", "commit 1 1 -> 1", "poll 1 0 -> -", "poll 2 0 -> a,b,a")...)
	talk(t, "taken back", append(open, "abort 1 1 -> 1", "help -> 1", "poll 1 0 -> -", "loose 2 0 -> a,b,a")...)
}

// As many Texts as a ring of a desk can have at once are told at once: 7, since
// one place is for how they ended. So 9 never hold anything back there.
func TestDeskTellsAllTexts(t *testing.T) {
	for _, word := range []string{"poll", "loose"} {
		pairs := []string{"join 1 1 -> ok", "init 1 -> 1", "begin 1 1 -> 1"}
		for place := range 7 {
			pairs = append(pairs, fmt.Sprintf("send 1 1 1 t%d -> %d", place, place))
		}
		pairs = append(pairs, "send 1 1 1 t7 -> error 9", "commit 1 1 -> 1", word+" 1 1 -> t0,t1,t2,t3,t4,t5,t6", word+" 1 1 -> -", "help -> 1")
		talk(t, word, append(pairs, "begin 1 1 -> 2", "send 1 1 1 next -> 8", "commit 1 1 -> 2", word+" 1 1 -> next")...)
	}
}

// chat is a desk's text that is made by chance, line by line, of such lines as
// mostly do something, and of such as tell a code.
type chat struct {
	dice *rand.Rand
	desk *wantedDesk
}

func (c *chat) epoch(producer int64) int64 {
	if producer < 1 || producer > 4 || c.dice.Intn(10) == 0 {
		return c.dice.Int63n(3)
	}
	return c.desk.f.Epochs[producer-1]
}

// mostly is a number from 1 on to most, now and then one less or one more.
func (c *chat) mostly(most int64) int64 {
	if c.dice.Intn(12) == 0 {
		return c.dice.Int63n(most + 2)
	}
	return 1 + c.dice.Int63n(most)
}

func (c *chat) line() string {
	producer, group, ring := c.mostly(3), c.mostly(4), c.mostly(2)-1
	if ring < 0 {
		ring = 2
	}
	epoch := c.epoch(producer)
	switch n := c.dice.Intn(32); {
	case n < 4:
		return fmt.Sprint("init ", producer)
	case n < 9:
		return fmt.Sprintf("begin %d %d", producer, epoch)
	case n < 18:
		return fmt.Sprintf("send %d %d %d %s", producer, epoch, ring, strings.Repeat(string(rune('a'+c.dice.Intn(26))), c.dice.Intn(18)+1))
	case n < 21:
		return fmt.Sprintf("%s %d %d", []string{"commit", "commit", "abort"}[n-18], producer, epoch)
	case n < 23:
		return "help"
	case n < 24:
		return fmt.Sprint("tick ", []int64{0, 7, 20, 999901, 1000000, 1000001}[c.dice.Intn(6)])
	case n < 27:
		return fmt.Sprintf("join %d %d", group, ring)
	case n < 28:
		return fmt.Sprintf("leave %d %d", group, ring)
	}
	return fmt.Sprintf("%s %d %d", []string{"poll", "loose"}[c.dice.Intn(2)], group, ring)
}

// chatOf are up to 40 lines, and what is to be told of them. Every fourth one
// begins with a ring that is nearly full.
func chatOf(seed int64) (lines, want []string) {
	c := &chat{dice: rand.New(rand.NewSource(seed)), desk: newWantedDesk()}
	if seed%4 == 0 {
		lines = append([]string{"init 1", "begin 1 1"}, repeated("send 1 1 0 a", 6)...)
	}
	for range 20 + c.dice.Intn(21) - len(lines) {
		lines = append(lines, "")
	}
	for i, line := range lines {
		if line == "" {
			lines[i] = c.line()
		}
		want = append(want, c.desk.tell(lines[i]))
	}
	return lines, want
}

func sameLines(t *testing.T, what string, lines, got, want []string) {
	t.Helper()
	if !slices.Equal(got, want) {
		t.Fatalf("%s: %q:\n got %q\nwant %q", what, lines, got, want)
	}
}

// Promise 10: each line tells a line, one by one: what the chapters ahead ask
// of it; what was told of the first lines is what is told of them alone.
func TestDeskTellsLineByLine(t *testing.T) {
	went := map[string]int{}
	for seed := range int64(4000) {
		lines, want := chatOf(seed)
		sameLines(t, "told", lines, toldBy(t, lines), want)
		for i, line := range lines {
			word, _, _ := strings.Cut(line, " ")
			code, refused := strings.CutPrefix(want[i], "error ")
			if !refused {
				code = "0"
			}
			went[word+" "+code]++
		}
		if seed%40 == 0 {
			for first := range lines {
				sameLines(t, "the first lines alone", lines[:first], toldBy(t, lines[:first]), want[:first])
			}
		}
	}
	for _, what := range []string{"init 0", "init 1", "begin 0", "begin 1", "begin 10", "begin 11", "send 0", "send 1", "send 8", "send 9", "send 10", "send 11", "commit 0", "commit 1", "commit 10", "commit 11", "abort 0", "abort 1", "abort 10", "abort 11",
		"help 0", "help 6", "tick 0", "tick 1", "join 0", "join 1", "join 7", "join 8", "leave 0", "leave 6", "leave 8", "poll 0", "poll 6", "poll 8", "loose 0", "loose 6", "loose 8"} {
		if went[what] < 50 {
			t.Errorf("the desks came by %s only %d times", what, went[what])
		}
	}
}

// Promise 10: a line that told a code changes nothing for those behind it.
func TestDeskRefusalChangesNothing(t *testing.T) {
	for seed := range int64(1000) {
		lines, told := chatOf(seed)
		var kept, want []string
		for i, line := range lines {
			if !strings.HasPrefix(told[i], "error ") {
				kept, want = append(kept, line), append(want, told[i])
			}
		}
		sameLines(t, "without those that told a code", kept, toldBy(t, kept), want)
		holdsBetween(t, kept, want)
	}
}

// holdsBetween lays such lines as always tell a code between the others, as
// many as there is room for.
func holdsBetween(t *testing.T, lines, told []string) {
	t.Helper()
	refused := []string{"init 5", "begin 0 1", "send 1 1 0 12345678901234567", "commit 9 9", "abort 0 0", "tick 999999999", "join 0 0", "leave 3 7", "poll 0 0", "loose 0 1"}
	codes := []string{"error 1", "error 1", "error 1", "error 1", "error 1", "error 1", "error 1", "error 8", "error 6", "error 6"}
	var longer, want []string
	for i, line := range lines[:min(len(lines), 20)] {
		longer, want = append(longer, refused[i%10], line), append(want, codes[i%10], told[i])
	}
	sameLines(t, "with more that tell a code", longer, toldBy(t, longer), want)
}

// A desk begins anew with each call, and the same lines tell the same again.
func TestDeskKeepsNothing(t *testing.T) {
	for seed := range int64(100) {
		lines, want := chatOf(seed)
		text := deskText(lines...)
		first := impl.DeskRun(text)
		impl.DeskRun("init 1\nbegin 1 1\njoin 1 0\nsend 1 1 0 a\n")
		impl.DeskFault("x\n")
		impl.DeskWords()
		same(t, "again", impl.DeskRun(text), first)
		same(t, "told", first.Text, deskText(want...))
	}
}

// Chapter 1: what is told shares no memory with what was handed in.
func TestDeskMemory(t *testing.T) {
	for seed := range int64(200) {
		lines, _ := chatOf(seed)
		text := deskText(lines...)
		if sharesMemory(impl.DeskRun(text).Text, text) {
			t.Fatalf("what is told shares memory with %q", text)
		}
	}
}

func TestDeskWords(t *testing.T) {
	want := []string{"abort", "begin", "commit", "help", "init", "join", "leave", "loose", "poll", "send", "tick"}
	got := impl.DeskWords()
	sameLines(t, "words", nil, got, want)
	same(t, "rising", slices.IsSorted(got), true)
	for _, word := range got {
		at := slices.IndexFunc(rightLines(), func(line string) bool { return strings.HasPrefix(line+" ", word+" ") })
		if at < 0 {
			t.Fatalf("no line begins with %q", word)
		}
		same(t, "told of "+word, len(toldBy(t, rightLines()[at:at+1])), 1)
	}
	for _, line := range rightLines() {
		word, _, _ := strings.Cut(line, " ")
		same(t, "among the words: "+word, slices.Contains(got, word), true)
	}
}

// An answer of DeskWords is new memory: who writes over it changes none that
// comes behind.
func TestDeskWordsMemory(t *testing.T) {
	first, second := impl.DeskWords(), impl.DeskWords()
	same(t, "lists share memory", listsOverlap(first, second), false)
	for i, word := range first {
		same(t, "words share memory", sharesMemory(word, second[i]), false)
		first[i] = "x"
	}
	same(t, "more is put behind", len(append(first, "x")), 12)
	sameLines(t, "the other", nil, second, impl.DeskWords())
	same(t, "the next", strings.Join(impl.DeskWords(), " "), "abort begin commit help init join leave loose poll send tick")
	same(t, "what is told", impl.DeskRun("tick 0\nhelp\n").Text, "0\nerror 6\n")
}
