package tests

import (
	"math/rand"
	"reflect"
	"testing"

	"loop.example/g00643/impl"
)

// textsShare: does the list, or a text of it, lie in the memory of a Ring?
func textsShare(texts []string, f impl.Fabric) bool {
	for _, r := range f.Rings {
		if ringsShare(impl.Ring{Recs: texts}, r) {
			return true
		}
	}
	return false
}

func holdsGroupMemory(t *testing.T, f impl.Fabric, right bool) {
	t.Helper()
	l := layOut(f)
	before := l.all()
	holdsLook(t, "laid out", l.fabric, right)
	eachSubscribeAndForget(l.fabric, right, func(what string, got, want impl.FabricOut) {
		t.Helper()
		if fabricsShare(got.Fabric, l.fabric) || sharesWithin(got.Fabric) {
			t.Fatalf("%s: the answer shares memory: %s", what, short(f))
		}
		sameFabric(t, what, got, want)
	})
	eachPoll(l.fabric, right, func(what string, got, want impl.PollOut) {
		t.Helper()
		if fabricsShare(got.Fabric, l.fabric) || textsShare(got.Texts, l.fabric) {
			t.Fatalf("%s: the answer shares memory with what was handed in: %s", what, short(f))
		}
		if sharesWithin(got.Fabric) || textsShare(got.Texts, got.Fabric) {
			t.Fatalf("%s: two lists of the answer share memory: %s", what, short(f))
		}
		samePoll(t, what, got, want)
	})
	if !reflect.DeepEqual(l.all(), before) {
		t.Errorf("what was handed in is changed: %s", short(f))
	}
}

// Chapter 1: what is handed in is not changed, and an answer shares no memory
// with it, nor two of its lists with each other.
func TestGroupMemory(t *testing.T) {
	for i, f := range append(heardFabrics(), busyFabric(), fullFabric(4)) {
		if i%8 == 3 || len(f.Rings[0].Recs) > 8 || len(f.Rings) > 2 {
			holdsGroupMemory(t, f, true)
		}
	}
	for _, w := range fabricsOfWrongTxns()[:4] {
		holdsGroupMemory(t, w.fabric, false)
	}
}

// One list stands at several places of what is handed in, and one text at
// several places of it.
func TestGroupMemoryOfOneList(t *testing.T) {
	f := emptyFabric(3, 8)
	text := recText(dataRec(1, "a"))
	recs, cursors := []string{text, text, text}, []impl.Cursor{{Group: 1, At: 2}, {Group: 4, At: 0}}
	for i := range f.Rings {
		f.Rings[i].Recs, f.Rings[i].Cursors = recs, cursors
	}
	f.Epochs[0] = 1
	f.Txns = []impl.Txn{{Producer: 1, Epoch: 1, State: impl.TxCommit, Until: 4, Rings: []int64{0, 1, 2}}}
	before := cloneFabric(f)
	eachSubscribeAndForget(f, true, func(what string, got, want impl.FabricOut) {
		sameFabric(t, what, got, want)
		same(t, what+": shares memory", fabricsShare(got.Fabric, f) || sharesWithin(got.Fabric), false)
	})
	eachPoll(f, true, func(what string, got, want impl.PollOut) {
		samePoll(t, what, got, want)
		same(t, what+": shares memory", fabricsShare(got.Fabric, f) || sharesWithin(got.Fabric), false)
		same(t, what+": texts share memory", textsShare(got.Texts, f) || textsShare(got.Texts, got.Fabric), false)
	})
	sameFabric(t, "what was handed in", impl.FabricOut{Fabric: f}, impl.FabricOut{Fabric: before})
}

// Chapter 1: nothing is kept: the same again answers the same, whatever was
// asked between.
func TestGroupKeepsNothing(t *testing.T) {
	dice := rand.New(rand.NewSource(8))
	fabrics := heardFabrics()
	for range 500 {
		f, other := fabrics[dice.Intn(len(fabrics))], fabrics[dice.Intn(len(fabrics))]
		group, loose := 1+dice.Int63n(9), dice.Intn(2) == 0
		first, follows := impl.Poll(f, group, 0, 3, loose), impl.Subscribe(f, group, 0)
		impl.Poll(other, group, 0, 20, !loose)
		impl.Subscribe(other, group, 0)
		impl.Forget(other, group, 0)
		samePoll(t, "Poll again", impl.Poll(f, group, 0, 3, loose), first)
		sameFabric(t, "Subscribe again", impl.Subscribe(f, group, 0), follows)
	}
}
