package tests

import (
	"fmt"
	"math/rand"
	"slices"
	"strings"
	"testing"
)

// heardBy is all that a poll of the group on that ring ever told.
func heardBy(lines, told []string, group, ring int) string {
	var out []string
	for i, line := range lines {
		if line == fmt.Sprintf("poll %d %d", group, ring) && told[i] != "-" {
			out = append(out, told[i])
		}
	}
	return strings.Join(out, ",")
}

// twoTell is one who tells a and b on two rings, and stops in the midst of it,
// and one who tells x and y behind these, and has said that it counts.
func twoTell() []string {
	return []string{"join 1 0", "join 1 1", "init 1", "init 2", "begin 1 1", "begin 2 1", "send 1 1 0 a", "send 2 1 0 x", "send 1 1 1 b", "send 2 1 1 y", "commit 2 1"}
}

// ending is what comes behind twoTell, and what is heard of both rings then.
type ending struct {
	what, heard string
	lines       []string
}

const (
	bothCount = "a,x b,y"
	takenAway = "x y"
	heldUp    = " "
)

func endings() []ending {
	return []ending{
		{"nothing", heldUp, []string{"tick 0"}},
		{"committed", bothCount, []string{"commit 1 1"}},
		{"committed, then all else", bothCount, []string{"commit 1 1", "abort 1 1", "tick 20", "init 1", "abort 1 2"}},
		{"taken back", takenAway, []string{"abort 1 1"}},
		{"taken back, then committed", takenAway, []string{"abort 1 1", "commit 1 1"}},
		{"taken back by time", takenAway, []string{"tick 20"}},
		{"taken back by time, bit by bit", takenAway, []string{"tick 12", "tick 7", "tick 1"}},
		{"taken back by time, then committed", takenAway, []string{"tick 30", "commit 1 1"}},
		{"not yet taken back by time", heldUp, []string{"tick 19"}},
		{"committed in time", bothCount, []string{"tick 19", "commit 1 1", "tick 1"}},
		{"came back", takenAway, []string{"init 1"}},
		{"came back, then committed under the old number", takenAway, []string{"init 1", "commit 1 1"}},
		{"came back, then committed under the new one", takenAway, []string{"init 1", "commit 1 2"}},
		{"came back, and began anew", takenAway, []string{"init 1", "begin 1 2", "commit 1 2"}},
		{"another came back", heldUp, []string{"init 2", "init 3"}},
		{"another one's number", heldUp, []string{"commit 1 2", "commit 1 0", "abort 1 2", "commit 2 1"}},
	}
}

// Promise 11: what is told on two rings counts on both at once, or on none;
// asked ahead of how it ended, nothing of it is heard on either.
func TestTwoRingsAtOnce(t *testing.T) {
	ask := []string{"poll 1 0", "poll 1 1"}
	for _, e := range endings() {
		lines := slices.Concat(twoTell(), ask, e.lines, ask, []string{"help", "help", "help", "help"}, ask)
		told := toldBy(t, lines)
		sameLines(t, e.what+": ahead of it", lines, told[11:13], []string{"-", "-"})
		same(t, e.what, heardBy(lines, told, 1, 0)+" "+heardBy(lines, told, 1, 1), e.heard)
		sameLines(t, e.what+": nothing twice", lines, told[len(told)-2:], []string{"-", "-"})
	}
}

// Promise 11: it is heard the same, wherever else those who hear ask, and
// whenever it is said how it ended; at no place one ring tells what counts on
// both while the other holds it back.
func TestTwoRingsAskedAnywhere(t *testing.T) {
	for _, e := range endings() {
		plain := append(twoTell(), e.lines...)
		for at := 2; at <= len(plain); at++ {
			for _, more := range [][]string{{"poll 1 0"}, {"poll 1 1"}, {"poll 1 1", "help", "poll 1 0", "help"}, {"loose 2 0", "join 2 0", "loose 2 0", "poll 2 0"}} {
				lines := slices.Concat(plain[:at], more, plain[at:], []string{"poll 1 1", "poll 1 0", "help", "help", "help", "poll 1 0", "poll 1 1"})
				told := toldBy(t, lines)
				same(t, e.what+", asked between", heardBy(lines, told, 1, 0)+" "+heardBy(lines, told, 1, 1), e.heard)
			}
			lines := slices.Concat(plain[:at], []string{"poll 1 0", "poll 1 1"})
			told := toldBy(t, lines)
			a, b := strings.Contains(told[at], "a"), strings.Contains(told[at+1], "b")
			same(t, e.what+": on both at once, or on none", a, b)
		}
	}
}

// Promise 11: who stops in the midst holds up those behind it, not those ahead
// of it; till its time is over, or it comes back.
func TestStopsInTheMidst(t *testing.T) {
	front := []string{"join 1 0 -> ok", "join 1 1 -> ok", "init 1 -> 1", "init 2 -> 1", "begin 2 1 -> 1", "send 2 1 0 v -> 0", "commit 2 1 -> 1", "begin 1 1 -> 2", "send 1 1 0 a -> 1",
		"begin 2 1 -> 3", "send 2 1 0 x -> 2", "send 2 1 1 w -> 0", "send 1 1 1 b -> 1", "send 2 1 1 y -> 2", "commit 2 1 -> 3",
		"poll 1 0 -> v", "poll 1 1 -> w", "poll 1 0 -> -", "poll 1 1 -> -", "help -> 1", "poll 1 0 -> -"}
	talk(t, "its time is over", append(front, "tick 19 -> 0", "poll 1 0 -> -", "poll 1 1 -> -", "tick 1 -> 1", "poll 1 0 -> x", "poll 1 1 -> y", "send 1 1 0 c -> error 10", "commit 1 1 -> error 10")...)
	talk(t, "it comes back", append(front, "init 2 -> 2", "poll 1 0 -> -", "init 1 -> 2", "poll 1 0 -> x", "poll 1 1 -> y", "send 1 1 0 c -> error 11", "commit 1 1 -> error 11")...)
	talk(t, "it goes on", append(front, "send 1 1 0 c -> 4", "poll 1 0 -> -", "commit 1 1 -> 2", "poll 1 0 -> a,x,c", "poll 1 1 -> b,y")...)
	talk(t, "loosely nobody is held up", append(front, "join 2 0 -> ok", "join 2 1 -> ok", "loose 2 0 -> a,x", "loose 2 1 -> b,y", "abort 1 1 -> 2", "loose 2 0 -> -", "poll 2 0 -> -", "poll 1 0 -> x")...)
}

// crowd tells by chance on two rings: three who tell, each of whom may end what
// it tells, come back, or stop in the midst; what is not ended at last is taken
// back as they come back. Two groups hear.
func crowd(dice *rand.Rand) []string {
	lines := []string{"join 1 0", "join 1 1", "join 2 0", "join 2 1", "init 1", "init 2", "init 3"}
	epochs := [4]int{0, 1, 1, 1}
	for at := range 28 {
		producer := 1 + dice.Intn(3)
		epoch := epochs[producer]
		switch n := dice.Intn(24); {
		case n < 1:
			lines = append(lines, fmt.Sprint("init ", producer))
			epochs[producer]++
		case n < 6:
			lines = append(lines, fmt.Sprintf("begin %d %d", producer, epoch))
		case n < 15:
			lines = append(lines, fmt.Sprintf("send %d %d %d %d.%d", producer, epoch, dice.Intn(2), producer, at))
		case n < 18:
			lines = append(lines, fmt.Sprintf("commit %d %d", producer, epoch))
		case n < 19:
			lines = append(lines, fmt.Sprintf("abort %d %d", producer, epoch))
		case n < 20:
			lines = append(lines, fmt.Sprint("tick ", dice.Intn(25)))
		case n < 22:
			lines = append(lines, "help")
		default:
			lines = append(lines, fmt.Sprintf("poll %d %d", 1+dice.Intn(2), dice.Intn(2)))
		}
	}
	return append(lines, "init 1", "init 2", "init 3", "poll 1 0", "poll 1 1")
}

// sending is what was sent, by whom, and whether that was committed behind it.
type sending struct {
	ring, text string
	number     string
}

// sendingsOf goes by what the desk told alone: what was sent, in order, and how
// each number ended.
func sendingsOf(lines, told []string) (sent []sending, ends map[string]string) {
	ends = map[string]string{}
	open := map[string]string{}
	for i, line := range lines {
		words := strings.Split(line, " ")
		if strings.HasPrefix(told[i], "error ") {
			continue
		}
		switch words[0] {
		case "begin":
			// One who may begin has nothing open: time has taken it back.
			ends[open[words[1]]] += "time"
			open[words[1]] = told[i]
		case "send":
			sent = append(sent, sending{words[3], words[4], open[words[1]]})
		case "commit", "abort":
			ends[told[i]] = words[0]
			delete(open, words[1])
		case "init":
			ends[open[words[1]]] += "init"
			delete(open, words[1])
		}
	}
	return sent, ends
}

// Promise 11, and 9 as a desk tells it: of each that was committed all is heard
// on both rings, in order, and of all others nothing, on either.
func TestCrowdOnTwoRings(t *testing.T) {
	went := map[string]int{}
	for seed := range int64(3000) {
		lines := crowd(rand.New(rand.NewSource(seed)))
		told := toldBy(t, lines)
		sent, ends := sendingsOf(lines, told)
		var want [2][]string
		rings := map[string]string{}
		for _, s := range sent {
			if !strings.Contains(rings[s.number], s.ring) {
				rings[s.number] += s.ring
			}
			if ends[s.number] == "commit" {
				ring := strings.Index("01", s.ring)
				want[ring] = append(want[ring], s.text)
			}
		}
		for ring := range 2 {
			same(t, fmt.Sprintf("seed %d, ring %d", seed, ring), heardBy(lines, told, 1, ring), strings.Join(want[ring], ","))
			// Who did not ask at last has heard the first of it.
			whole := strings.Join(append(want[ring], ""), ",")
			if heard := heardBy(lines, told, 2, ring); heard != "" && !strings.HasPrefix(whole, heard+",") {
				t.Fatalf("seed %d: %q heard of %q", seed, heard, whole)
			}
		}
		for number, touched := range rings {
			went[fmt.Sprint(ends[number], " of ", len(touched))]++
		}
	}
	for _, what := range []string{"commit of 1", "commit of 2", "abort of 1", "abort of 2", "init of 1", "init of 2", "time of 1", "time of 2"} {
		if went[what] < 50 {
			t.Errorf("the crowds came by %s only %d times: %v", what, went[what], went)
		}
	}
}
