package tests

import (
	"fmt"
	"math"
	"slices"
	"strings"
	"testing"

	"loop.example/g00643/impl"
)

// seePoll is told of a call of Poll, what it answered, and what chapter 7 asks.
type seePoll func(what string, got, want impl.PollOut)

func someGroups() []int64 {
	return append(wrongGroups(), 1, 2, 3, 4, 5, 6, 7, 8, 9)
}

// ringsNear are those that are there, and such as are not.
func ringsNear(f impl.Fabric) []int64 {
	out := []int64{math.MinInt64, -1, 1 << 32, math.MaxInt64}
	for ring := range int64(min(len(f.Rings), 4)) + 2 {
		out = append(out, ring)
	}
	return out
}

func eachSubscribeAndForget(f impl.Fabric, right bool, see seeCall) {
	for _, ring := range ringsNear(f) {
		for _, group := range someGroups() {
			see(fmt.Sprint("Subscribe ", group, ring), impl.Subscribe(f, group, ring), wantSubscribe(f, right, group, ring))
			see(fmt.Sprint("Forget ", group, ring), impl.Forget(f, group, ring), wantForget(f, right, group, ring))
		}
	}
}

func eachPoll(f impl.Fabric, right bool, see seePoll) {
	for _, ring := range ringsNear(f) {
		for _, group := range []int64{-1, 0, 1, 2, 3, 4, 5, 9, 10, math.MaxInt64} {
			for _, most := range []int64{math.MinInt64, 0, 1, 2, 3, 16, 20, 21, math.MaxInt64} {
				for _, loose := range []bool{false, true} {
					see(fmt.Sprint("Poll ", group, ring, most, loose), impl.Poll(f, group, ring, most, loose), wantPoll(f, right, group, ring, most, loose))
				}
			}
		}
	}
}

// holdsLook asks Stable and Counts of each ring, and of the places there and
// about there; of a fabric that is not right, whose places may be any numbers,
// of some.
func holdsLook(t *testing.T, what string, f impl.Fabric, right bool) {
	t.Helper()
	for _, ring := range ringsNear(f) {
		same(t, fmt.Sprint(what, ": Stable ", ring), impl.Stable(f, ring), wantStable(f, right, ring))
		places := []int64{math.MinInt64, -1, 0, impl.MaxTime, 1 << 32, math.MaxInt64}
		if right && isThere(f, ring) {
			places = append(places, placesOf(f.Rings[ring])...)
		} else {
			places = append(places, 1, 7, 40, 41)
		}
		for _, at := range places {
			same(t, fmt.Sprint(what, ": Counts ", ring, at), impl.Counts(f, ring, at), wantCounts(f, right, ring, at))
		}
	}
}

// Promise 8: what each call answers, and that the fabric stays right.
func TestGroupCalls(t *testing.T) {
	for _, f := range append(heardFabrics(), busyFabric(), fullFabric(2), lateFabric(impl.MaxTime)) {
		same(t, "made right: "+short(f), impl.FabricRight(f), true)
		holdsLook(t, short(f), f, true)
		staysRight := func(what string, f impl.Fabric) {
			if !impl.FabricRight(f) || !fabricIsRight(f) {
				t.Fatalf("%s: is no more right: %s", what, showFabric(impl.FabricOut{Fabric: f}))
			}
		}
		eachSubscribeAndForget(f, true, func(what string, got, want impl.FabricOut) {
			sameFabric(t, what, got, want)
			if got.Code == impl.OK {
				staysRight(what, got.Fabric)
			}
		})
		eachPoll(f, true, func(what string, got, want impl.PollOut) {
			samePoll(t, what, got, want)
			if got.Code == impl.OK {
				staysRight(what, got.Fabric)
			}
		})
	}
}

func TestGroupCallsOfWrongFabrics(t *testing.T) {
	for _, w := range fewWrongFabrics() {
		eachSubscribeAndForget(w.fabric, false, func(what string, got, want impl.FabricOut) {
			sameFabric(t, w.what+": "+what, got, want)
		})
	}
	for _, w := range wrongFabrics() {
		holdsLook(t, w.what, w.fabric, false)
		fabricRefused(t, w.what+": Subscribe", impl.Subscribe(w.fabric, 1, 0), impl.ErrForm)
		fabricRefused(t, w.what+": Subscribe, no such Ring", impl.Subscribe(w.fabric, 1, 9), impl.ErrForm)
		fabricRefused(t, w.what+": Forget", impl.Forget(w.fabric, 2, 0), impl.ErrForm)
		fabricRefused(t, w.what+": Forget, no such Ring", impl.Forget(w.fabric, 2, -1), impl.ErrForm)
		pollRefused(t, w.what+": Poll", impl.Poll(w.fabric, 2, 0, 9, false), impl.ErrForm)
		pollRefused(t, w.what+": Poll, loose", impl.Poll(w.fabric, 5, 0, 1, true), impl.ErrForm)
		pollRefused(t, w.what+": Poll, no such Ring", impl.Poll(w.fabric, 2, 9, 9, false), impl.ErrForm)
		pollRefused(t, w.what+": Poll, most of 0", impl.Poll(w.fabric, 2, 0, 0, false), impl.ErrForm)
		pollRefused(t, w.what+": Poll, does not follow", impl.Poll(w.fabric, 3, 0, 9, false), impl.ErrForm)
	}
}

// Promise 8: over all that may stand on a ring, from wherever one is.
func TestPollOverAllThatMayStand(t *testing.T) {
	for size := range 5 {
		for _, letters := range lettersOf(size) {
			for from := range int64(size) + 1 {
				f := heardFabric(8, 5, letters, impl.Cursor{Group: 1, At: 5}, impl.Cursor{Group: 2, At: 5 + from})
				same(t, "Stable of "+letters, impl.Stable(f, 0), wantStable(f, true, 0))
				same(t, "Counts of "+letters, impl.Counts(f, 0, 5+from), wantCounts(f, true, 0, 5+from))
				for _, most := range []int64{1, 2, 20} {
					for _, loose := range []bool{false, true} {
						samePoll(t, fmt.Sprint("Poll of ", letters, from, most, loose), impl.Poll(f, 2, 0, most, loose), wantPoll(f, true, 2, 0, most, loose))
					}
				}
			}
		}
	}
}

func TestStableByHand(t *testing.T) {
	for _, c := range []struct {
		what, letters string
		first, want   int64
	}{
		{"no Rec", "", 0, 0},
		{"no Rec, places have gone", "", 7, 7},
		{"nothing open", "cbCB", 0, 4},
		{"nothing open, places have gone", "cbCB", 7, 11},
		{"the first", "occ", 0, 0},
		{"the first, places have gone", "occ", 7, 7},
		{"in the midst", "cboc", 0, 2},
		{"in the midst, places have gone", "cboc", 7, 9},
		{"the last", "cCbo", 7, 10},
		{"two of them", "cobo", 7, 8},
		{"no RcData of it", "cxb", 7, 10},
		{"no RcData of it ahead of one that is", "cxo", 7, 9},
		{"at the end of places", "cc", impl.MaxTime - 2, impl.MaxTime},
	} {
		f := heardFabric(8, c.first, c.letters)
		same(t, c.what, impl.Stable(f, 0), c.want)
		same(t, c.what+": of the other Ring", impl.Stable(f, 1), 0)
		same(t, c.what+": of Ring -1", impl.Stable(f, -1), 0)
		same(t, c.what+": of one behind the last", impl.Stable(f, 2), 0)
	}
	f := busyFabric()
	same(t, "three Rings", [5]int64{impl.Stable(f, -1), impl.Stable(f, 0), impl.Stable(f, 1), impl.Stable(f, 2), impl.Stable(f, 3)}, [5]int64{0, 43, 2, 8, 0})
	f.Now = -1
	same(t, "not right", [3]int64{impl.Stable(f, 0), impl.Stable(f, 1), impl.Stable(f, 2)}, [3]int64{})
}

func TestCountsByHand(t *testing.T) {
	f := heardFabric(8, 7, "cboCBxc")
	want := map[int64]bool{7: true, 13: true}
	for at := int64(-1); at <= 20; at++ {
		same(t, fmt.Sprint("at ", at), impl.Counts(f, 0, at), want[at])
		same(t, "Ring -1", impl.Counts(f, -1, at), false)
		same(t, "the other Ring", impl.Counts(f, 1, at), false)
		same(t, "one behind the last", impl.Counts(f, 2, at), false)
	}
	f.Txns[undecided-1].State = impl.TxCommit
	same(t, "it is decided", impl.Counts(f, 0, 9), true)
	same(t, "how it ended is no RcData", impl.Counts(f, 0, 12), false)
	f.Txns[counting-1].Until = impl.MaxTime + 1
	same(t, "not right", impl.Counts(f, 0, 7) || impl.Counts(f, 0, 9), false)
	last := heardFabric(4, impl.MaxTime-2, "bc")
	same(t, "the last place of all", [3]bool{impl.Counts(last, 0, impl.MaxTime-2), impl.Counts(last, 0, impl.MaxTime-1), impl.Counts(last, 0, impl.MaxTime)}, [3]bool{false, true, false})
}

func TestSubscribeByHand(t *testing.T) {
	f := heardFabric(8, 6, "cob", impl.Cursor{Group: 5, At: 6})
	for _, group := range []int64{9, 1, 4} {
		want := cloneFabric(f)
		want.Rings[0].Cursors = append(want.Rings[0].Cursors, impl.Cursor{Group: group, At: 6})
		slices.SortFunc(want.Rings[0].Cursors, func(a, b impl.Cursor) int { return int(a.Group - b.Group) })
		fabricRefused(t, "0, and there is room", impl.Subscribe(f, 0, 0), impl.ErrForm)
		got := impl.Subscribe(f, group, 0)
		sameFabric(t, "one more", got, impl.FabricOut{Fabric: want})
		fabricRefused(t, "follows already", impl.Subscribe(got.Fabric, group, 0), impl.ErrThere)
		f = got.Fabric
	}
	for _, group := range []int64{1, 4, 5, 9} {
		fabricRefused(t, "follows already, MaxCursors", impl.Subscribe(f, group, 0), impl.ErrThere)
	}
	fabricRefused(t, "MaxCursors", impl.Subscribe(f, 2, 0), impl.ErrFull)
	fabricRefused(t, "no group, MaxCursors", impl.Subscribe(f, 10, 0), impl.ErrForm)
	fabricRefused(t, "no such Ring", impl.Subscribe(f, 2, 2), impl.ErrRange)
	fabricRefused(t, "no such Ring", impl.Subscribe(f, 2, -1), impl.ErrRange)
	fabricRefused(t, "no such Ring, no group", impl.Subscribe(f, 10, 2), impl.ErrRange)
	same(t, "the other Ring", impl.Subscribe(f, 1, 1).Code, impl.OK)
}

func TestForgetByHand(t *testing.T) {
	f := heardFabric(8, 6, "cobc", impl.Cursor{Group: 1, At: 10}, impl.Cursor{Group: 5, At: 6}, impl.Cursor{Group: 6, At: 8})
	sameFabric(t, "not the least", impl.Forget(f, 1, 0), impl.FabricOut{Fabric: heardFabric(8, 6, "cobc", impl.Cursor{Group: 5, At: 6}, impl.Cursor{Group: 6, At: 8})})
	want := heardFabric(8, 8, "bc", impl.Cursor{Group: 1, At: 10}, impl.Cursor{Group: 6, At: 8})
	want.Txns[undecided-1].Rings = []int64{0}
	least := impl.Forget(f, 5, 0)
	sameFabric(t, "the least: what it alone had not passed goes", least, impl.FabricOut{Fabric: want})
	fabricRefused(t, "follows no more", impl.Forget(least.Fabric, 5, 0), impl.ErrNone)
	alone := impl.Forget(least.Fabric, 6, 0)
	want = heardFabric(8, 10, "")
	want.Txns[undecided-1].Rings = []int64{0}
	sameFabric(t, "the last one: nothing goes", impl.Forget(alone.Fabric, 1, 0), impl.FabricOut{Fabric: want})
	for _, group := range wrongGroups() {
		fabricRefused(t, "no group", impl.Forget(f, group, 0), impl.ErrNone)
		fabricRefused(t, "no group, no such Ring", impl.Forget(f, group, 2), impl.ErrRange)
	}
	fabricRefused(t, "no such Ring", impl.Forget(f, 5, -1), impl.ErrRange)
	fabricRefused(t, "follows the other Ring alone", impl.Forget(f, 2, 0), impl.ErrNone)
}

// pollHand is a Poll of group 5 of a ring from place 6 on, at which also group
// 7 is.
type pollHand struct {
	what    string
	letters string
	at      int64
	most    int64
	loose   bool
	texts   string
	behind  int64
}

func pollsByHand() []pollHand {
	return []pollHand{
		{"no Rec", "", 6, 20, false, "", 6},
		{"no Rec, loose", "", 6, 20, true, "", 6},
		{"all count", "ccc", 6, 20, false, "6 7 8", 9},
		{"one fewer than most", "ccc", 6, 4, false, "6 7 8", 9},
		{"as many as most", "ccc", 6, 3, false, "6 7 8", 9},
		{"one more than most", "ccc", 6, 2, false, "6 7", 8},
		{"most of 1", "ccc", 6, 1, false, "6", 7},
		{"from the midst", "ccc", 7, 20, false, "7 8", 9},
		{"at RingEnd", "ccc", 9, 20, false, "", 9},
		{"at RingEnd, loose", "ccc", 9, 20, true, "", 9},
		{"as many as most, behind it what is not told", "ccbC", 6, 2, false, "6 7", 8},
		{"one fewer than most, behind it what is not told", "ccbC", 6, 3, false, "6 7", 10},
		{"taken back, and no RcData", "bCcBbc", 6, 20, false, "8 11", 12},
		{"taken back, and no RcData, loose", "bCcBbc", 6, 20, true, "6 8 10 11", 12},
		{"nothing is told, and all looked at", "bCBb", 6, 1, false, "", 10},
		{"ahead of Stable", "cbcoc", 6, 20, false, "6 8", 9},
		{"ahead of Stable, most of 1", "cbcoc", 6, 1, false, "6", 7},
		{"ahead of Stable, as many as most", "cbcoc", 6, 2, false, "6 8", 9},
		{"ahead of Stable, loose", "cbcoc", 6, 20, true, "6 7 8 9 10", 11},
		{"ahead of Stable, loose, fewer than there are", "cbcoc", 6, 4, true, "6 7 8 9", 10},
		{"at Stable", "cbcoc", 9, 20, false, "", 9},
		{"at Stable, loose", "cbcoc", 9, 20, true, "9 10", 11},
		{"behind Stable", "cbcoc", 10, 20, false, "", 10},
		{"behind Stable, at RingEnd", "cbcoc", 11, 20, false, "", 11},
		{"behind Stable, loose", "cbcoc", 10, 20, true, "10", 11},
		{"Stable is the first place", "occ", 6, 20, false, "", 6},
		{"what says how an open one ended holds nobody up", "cxc", 6, 20, false, "6 8", 9},
	}
}

func TestPollByHand(t *testing.T) {
	for _, c := range pollsByHand() {
		f := heardFabric(8, 6, c.letters, impl.Cursor{Group: 5, At: c.at}, impl.Cursor{Group: 7, At: 6})
		want := impl.PollOut{Fabric: cloneFabric(f), Texts: strings.Fields(c.texts)}
		want.Fabric.Rings[0].Cursors[0].At = c.behind
		samePoll(t, c.what, impl.Poll(f, 5, 0, c.most, c.loose), want)
	}
}

func TestPollRefuses(t *testing.T) {
	f := heardFabric(8, 6, "ccc", impl.Cursor{Group: 5, At: 6})
	for _, loose := range []bool{false, true} {
		for _, most := range []int64{math.MinInt64, -1, 0, 21, 1<<32 + 1, math.MaxInt64} {
			pollRefused(t, "most", impl.Poll(f, 5, 0, most, loose), impl.ErrForm)
			pollRefused(t, "most, no such Ring", impl.Poll(f, 5, 2, most, loose), impl.ErrForm)
			pollRefused(t, "most, no such Ring", impl.Poll(f, 5, -1, most, loose), impl.ErrForm)
			pollRefused(t, "most, does not follow", impl.Poll(f, 4, 0, most, loose), impl.ErrForm)
		}
		for _, most := range []int64{1, 20} {
			same(t, "most that may be", impl.Poll(f, 5, 0, most, loose).Code, impl.OK)
			pollRefused(t, "no such Ring", impl.Poll(f, 5, 2, most, loose), impl.ErrRange)
			pollRefused(t, "no such Ring", impl.Poll(f, 5, -1, most, loose), impl.ErrRange)
			pollRefused(t, "no such Ring, no group", impl.Poll(f, 0, 2, most, loose), impl.ErrRange)
			pollRefused(t, "does not follow", impl.Poll(f, 4, 0, most, loose), impl.ErrNone)
			pollRefused(t, "follows the other Ring alone", impl.Poll(f, 2, 0, most, loose), impl.ErrNone)
			pollRefused(t, "follows the first Ring alone", impl.Poll(f, 5, 1, most, loose), impl.ErrNone)
			for _, group := range wrongGroups() {
				pollRefused(t, "no group", impl.Poll(f, group, 0, most, loose), impl.ErrNone)
			}
		}
	}
}

// What nobody has still to pass goes with the Cursor, and no more.
func TestPollLetsGo(t *testing.T) {
	f := heardFabric(8, 6, "cbcc", impl.Cursor{Group: 5, At: 6})
	samePoll(t, "alone", impl.Poll(f, 5, 0, 2, false), impl.PollOut{Fabric: heardFabric(8, 9, "c", impl.Cursor{Group: 5, At: 9}), Texts: []string{"6", "8"}})
	samePoll(t, "alone, all", impl.Poll(f, 5, 0, 20, false), impl.PollOut{Fabric: heardFabric(8, 10, "", impl.Cursor{Group: 5, At: 10}), Texts: []string{"6", "8", "9"}})
	f = heardFabric(8, 6, "cbcc", impl.Cursor{Group: 3, At: 8}, impl.Cursor{Group: 5, At: 6})
	samePoll(t, "up to where the other one is", impl.Poll(f, 5, 0, 20, false), impl.PollOut{Fabric: heardFabric(8, 8, "cc", impl.Cursor{Group: 3, At: 8}, impl.Cursor{Group: 5, At: 10}), Texts: []string{"6", "8", "9"}})
	samePoll(t, "not as far", impl.Poll(f, 5, 0, 1, false), impl.PollOut{Fabric: heardFabric(8, 7, "bcc", impl.Cursor{Group: 3, At: 8}, impl.Cursor{Group: 5, At: 7}), Texts: []string{"6"}})
	samePoll(t, "the other one", impl.Poll(f, 3, 0, 20, false), impl.PollOut{Fabric: heardFabric(8, 6, "cbcc", impl.Cursor{Group: 3, At: 10}, impl.Cursor{Group: 5, At: 6}), Texts: []string{"8", "9"}})
}

func TestPollOfAFullRing(t *testing.T) {
	f := heardFabric(16, 0, strings.Repeat("c", 16), impl.Cursor{Group: 5, At: 0})
	for most := int64(1); most <= 20; most++ {
		for _, loose := range []bool{false, true} {
			got := impl.Poll(f, 5, 0, most, loose)
			count := min(most, 16)
			same(t, "how many are told", int64(len(got.Texts)), count)
			same(t, "the Cursor", got.Fabric.Rings[0].Cursors[0].At, count)
			same(t, "First", got.Fabric.Rings[0].First, count)
			same(t, "what is left", int64(len(got.Fabric.Rings[0].Recs)), 16-count)
		}
	}
}

// Data is told byte by byte as it was sent.
func TestPollTellsDataAsItIs(t *testing.T) {
	for _, data := range dataTexts() {
		f := impl.Subscribe(impl.FabricNew(1, 4).Fabric, 3, 0).Fabric
		f = impl.Begin(impl.Init(f, 2).Fabric, 2, 1, 5).Fabric
		f = impl.Send(f, 2, 1, 0, data).Fabric
		f = impl.End(f, 2, 1, true).Fabric
		same(t, "as it is", strings.Join(impl.Poll(f, 3, 0, 1, false).Texts, "|"), data)
		same(t, "one text", len(impl.Poll(f, 3, 0, 20, true).Texts), 1)
	}
}
