package tests

import (
	"slices"
	"strings"
	"testing"

	"loop.example/g00643/impl"
)

// deskText puts a line feed behind each line.
func deskText(lines ...string) string {
	return strings.Join(append(slices.Clone(lines), ""), "\n")
}

// toldBy are the lines that a desk tells, each of which has its line feed.
func toldBy(t *testing.T, lines []string) []string {
	t.Helper()
	text := deskText(lines...)
	out := impl.DeskRun(text)
	if out.Code != impl.OK || out.Line != 0 || out.Text != "" && !strings.HasSuffix(out.Text, "\n") {
		t.Fatalf("%s tells %s", short(text), short(out))
	}
	same(t, "fault of "+short(text), impl.DeskFault(text), impl.DeskOut{})
	told := strings.Split(out.Text, "\n")
	return told[:len(told)-1]
}

// talk is a desk's lines and what each of them is to tell, written as
// "line -> told".
func talk(t *testing.T, what string, pairs ...string) {
	t.Helper()
	var lines, want []string
	for _, pair := range pairs {
		line, told, ok := strings.Cut(pair, " -> ")
		if !ok {
			t.Fatalf("%s: no pair: %s", what, pair)
		}
		lines, want = append(lines, line), append(want, told)
	}
	got := toldBy(t, lines)
	same(t, what+": how many are told", len(got), len(want))
	for i := range min(len(got), len(want)) {
		same(t, what+": "+short(lines[i]), got[i], want[i])
	}
}

// holdsFault looks at both calls: no Text stands beside a code.
func holdsFault(t *testing.T, what, text string, line, code int64) {
	t.Helper()
	want := impl.DeskOut{Line: line, Code: code}
	same(t, "DeskRun: "+what, impl.DeskRun(text), want)
	same(t, "DeskFault: "+what, impl.DeskFault(text), want)
}

// rightLines are one of each word, and more where a word has more than N.
func rightLines() []string {
	return []string{"init 1", "begin 1 1", "send 1 1 0 hi", "send 0 0 0 0", "commit 1 1", "abort 1 1", "help", "tick 5", "join 1 0", "leave 1 0", "poll 1 0", "loose 1 0"}
}

func repeated(line string, count int) []string {
	return slices.Repeat([]string{line}, count)
}
