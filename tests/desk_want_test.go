package tests

import (
	"strconv"
	"strings"

	"loop.example/g00643/impl"
)

// What chapter 8 asks of lines that are right, written a second time, from the
// document's words. It goes by the second writing of the chapters ahead of it.
type wantedDesk struct {
	f impl.Fabric
}

func newWantedDesk() *wantedDesk {
	return &wantedDesk{f: emptyFabric(2, 8)}
}

func wantTold(lines []string) []string {
	d := newWantedDesk()
	var out []string
	for _, line := range lines {
		out = append(out, d.tell(line))
	}
	return out
}

func (d *wantedDesk) tell(line string) string {
	words := strings.Split(line, " ")
	var n [5]int64
	for i, word := range words[1:] {
		// TEXT is no number, and is not asked for as one.
		n[i], _ = strconv.ParseInt(word, 10, 64)
	}
	switch f := d.f; words[0] {
	case "init":
		return d.number(wantInit(f, true, n[0]))
	case "begin":
		return d.number(wantBegin(f, true, n[0], n[1], 20))
	case "send":
		return d.number(wantSend(f, true, n[0], n[1], n[2], words[4]))
	case "commit", "abort":
		return d.number(wantEnd(f, true, n[0], n[1], words[0] == "commit"))
	case "help":
		return d.number(wantHelp(f, true))
	case "tick":
		return d.number(wantTick(f, true, n[0]))
	case "join":
		return d.tellAs(wantSubscribe(f, true, n[0], n[1]), "ok")
	case "leave":
		return d.tellAs(wantForget(f, true, n[0], n[1]), "ok")
	}
	return d.texts(wantPoll(d.f, true, n[0], n[1], 9, words[0] == "loose"))
}

func (d *wantedDesk) tellAs(out impl.FabricOut, words string) string {
	if out.Code != impl.OK {
		return "error " + strconv.Itoa(int(out.Code))
	}
	d.f = out.Fabric
	return words
}

func (d *wantedDesk) number(out impl.FabricOut) string {
	return d.tellAs(out, strconv.Itoa(int(out.N)))
}

func (d *wantedDesk) texts(out impl.PollOut) string {
	words := "-"
	if len(out.Texts) > 0 {
		words = strings.Join(out.Texts, ",")
	}
	return d.tellAs(impl.FabricOut{Fabric: out.Fabric, Code: out.Code}, words)
}
