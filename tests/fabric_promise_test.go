package tests

import (
	"fmt"
	"math/rand"
	"slices"
	"testing"

	"loop.example/g00643/impl"
)

// walker makes calls one behind the other, by chance, and holds each answer
// against what chapter 6 asks of the one ahead of it.
type walker struct {
	t    *testing.T
	dice *rand.Rand
	now  impl.Fabric
	went map[string]int
	sent int
}

func (w *walker) take(what string, got, want impl.FabricOut) {
	w.t.Helper()
	sameFabric(w.t, what, got, want)
	w.went[fmt.Sprint(what, " ", got.Code)]++
	if got.Code != impl.OK {
		return
	}
	if !impl.FabricRight(got.Fabric) || !fabricIsRight(got.Fabric) {
		w.t.Fatalf("%s: is no more right: %s", what, showFabric(got))
	}
	w.now = got.Fabric
}

// epoch is now and then another one than the producer has.
func (w *walker) epoch(producer int64) int64 {
	own := w.now.Epochs[producer-1]
	if w.dice.Intn(8) == 0 {
		return own - 1 + w.dice.Int63n(3)
	}
	return own
}

func (w *walker) step() {
	if w.dice.Intn(20) < 17 {
		w.tell()
	} else {
		w.pass(w.dice.Int63n(int64(len(w.now.Rings))))
	}
}

// tell is a step of those who tell, or of time.
func (w *walker) tell() {
	f, producer := w.now, 1+w.dice.Int63n(4)
	epoch, ring := w.epoch(producer), w.dice.Int63n(int64(len(f.Rings))+1)
	switch n := w.dice.Intn(17); {
	case n < 1:
		w.take("Init", impl.Init(f, producer), wantInit(f, true, producer))
	case n < 5:
		life := w.dice.Int63n(30)
		w.take("Begin", impl.Begin(f, producer, epoch, life), wantBegin(f, true, producer, epoch, life))
	case n < 13:
		w.sent++
		w.send(producer, epoch, ring, fmt.Sprint(w.sent, "/", ring))
	case n < 14:
		commit := w.dice.Intn(2) == 0
		w.take("End", impl.End(f, producer, epoch, commit), wantEnd(f, true, producer, epoch, commit))
	case n < 16:
		w.take("Help", impl.Help(f), wantHelp(f, true))
	default:
		by := w.dice.Int63n(12) - 1
		w.take("Tick", impl.Tick(f, by), wantTick(f, true, by))
	}
}

// send holds, behind the answer as a whole, that what was sent stands at its
// place.
func (w *walker) send(producer, epoch, ring int64, data string) {
	before := w.now
	got := impl.Send(before, producer, epoch, ring, data)
	w.take("Send", got, wantSend(before, true, producer, epoch, ring, data))
	if got.Code == impl.OK {
		there := impl.RingAt(got.Fabric.Rings[ring], got.N)
		same(w.t, "what was sent", there.Rec, dataRec(impl.OpenOf(before, producer), data))
		same(w.t, "its place is the last one", got.N+1, impl.RingEnd(got.Fabric.Rings[ring]))
	}
}

// pass lets a group pass what is there, so that the rings do not stay full.
func (w *walker) pass(ring int64) {
	group := 1 + w.dice.Int63n(3)
	r := w.now.Rings[ring]
	out := impl.Follow(r, group)
	if out.Code != impl.OK {
		at, _ := cursorOf(r, group)
		out = impl.Move(r, group, min(at.At+w.dice.Int63n(8), impl.RingEnd(r)))
	}
	if out.Code == impl.OK {
		w.now.Rings[ring] = out.Ring
	}
}

// startsOfWalks have producers that are heard already, and are near the end of
// time or of places, or not.
func startsOfWalks() []impl.Fabric {
	var out []impl.Fabric
	for rings := 1; rings <= 4; rings++ {
		for _, most := range []int64{4, 8, 16} {
			out = append(out, impl.FabricNew(int64(rings), most).Fabric)
			late := emptyFabric(rings, most)
			late.Epochs = []int64{1, impl.MaxTime, impl.MaxTime - 2, 0}
			late.Now = impl.MaxTime - 130
			late.Rings[0].First = impl.MaxTime - 9
			out = append(out, late)
		}
	}
	return append(out, busyFabric())
}

// holdsRoom ends all that is open and says it: there is room for each, and so
// many are said as were owed.
func holdsRoom(t *testing.T, f impl.Fabric, commit bool) {
	t.Helper()
	var owed [4]int64
	for ring := range f.Rings {
		owed[ring] = impl.Owed(f, int64(ring))
	}
	before := f
	for producer := int64(1); producer <= 4; producer++ {
		if impl.OpenOf(f, producer) > 0 {
			f = impl.End(f, producer, f.Epochs[producer-1], commit).Fabric
		}
	}
	f = saidAll(t, f)
	for ring, r := range f.Rings {
		same(t, "what was said", int64(len(r.Recs)-len(before.Rings[ring].Recs)), owed[ring])
		same(t, "owed still", impl.Owed(f, int64(ring)), 0)
	}
	for _, x := range f.Txns {
		same(t, "ended, and said", x.State != impl.TxOpen && len(x.Left) == 0, true)
	}
}

func saidAll(t *testing.T, f impl.Fabric) impl.Fabric {
	t.Helper()
	for {
		out := impl.Help(f)
		if out.Code == impl.ErrNone {
			return f
		}
		if out.Code != impl.OK {
			t.Fatalf("Help fails with %d: %s", out.Code, short(f))
		}
		f = out.Fabric
	}
}

// Promise 6: a fabric stays right; what is sent stands at its place; there is
// always room to say how all that is open ended.
func TestFabricWalks(t *testing.T) {
	went := map[string]int{}
	for seed := range int64(25) {
		for _, f := range startsOfWalks() {
			w := &walker{t: t, dice: rand.New(rand.NewSource(seed)), now: f, went: went}
			for i := range 200 {
				w.step()
				if i%20 == 9 {
					holdsRoom(t, w.now, i%40 == 9)
				}
			}
		}
		if t.Failed() {
			t.Fatalf("seed %d", seed)
		}
	}
	for _, what := range []string{"Init 0", "Init 9", "Begin 0", "Begin 1", "Begin 9", "Begin 10", "Begin 11", "Send 0", "Send 8", "Send 9", "Send 10", "Send 11", "End 0", "End 10", "End 11", "Help 0", "Help 6", "Tick 0", "Tick 1"} {
		if went[what] < 100 {
			t.Errorf("the walks came by %s only %d times", what, went[what])
		}
	}
}

// Promise 6: whatever is sent, till nothing more may be, there is room.
func TestRoomIsKept(t *testing.T) {
	for _, most := range []int64{4, 8, 16} {
		for _, first := range []int64{0, impl.MaxTime - 12, impl.MaxTime - 5, impl.MaxTime - 1, impl.MaxTime} {
			f := emptyFabric(2, most)
			f.Rings[1].First = first
			for producer := int64(1); producer <= 4; producer++ {
				f = impl.Begin(impl.Init(f, producer).Fabric, producer, 1, 100).Fabric
			}
			for i, full := int64(0), 0; full < 8; i++ {
				out := impl.Send(f, 1+i%4, 1, i/4%2, "x")
				full++
				if out.Code == impl.OK {
					f, full = out.Fabric, 0
				}
			}
			same(t, "a Ring without any place to spare", len(f.Rings[1].Recs) > 0, first+2 <= impl.MaxTime)
			holdsRoom(t, f, true)
			holdsRoom(t, impl.Init(f, 2).Fabric, false)
			holdsRoom(t, impl.Tick(f, 100).Fabric, true)
		}
	}
}

// Promise 7: who comes back is heard by its new number alone.
func TestOldNumberIsFenced(t *testing.T) {
	for _, f := range rightFabrics() {
		for producer := int64(1); producer <= 4; producer++ {
			back := impl.Init(f, producer)
			if back.Code != impl.OK {
				same(t, "Epoch of one that can't come back", f.Epochs[producer-1], impl.MaxTime)
				continue
			}
			holdsFence(t, f, back, producer)
		}
	}
}

func holdsFence(t *testing.T, f impl.Fabric, back impl.FabricOut, producer int64) {
	t.Helper()
	old := f.Epochs[producer-1]
	same(t, "the new number", [2]int64{back.N, back.Fabric.Epochs[producer-1]}, [2]int64{old + 1, old + 1})
	for _, epoch := range []int64{0, 1, old - 1, old, old + 2, -back.N} {
		if epoch == back.N {
			continue
		}
		if f.Now <= impl.MaxTime-100 {
			fabricRefused(t, "Begin by another number", impl.Begin(back.Fabric, producer, epoch, 5), impl.ErrFenced)
		}
		fabricRefused(t, "Send by another number", impl.Send(back.Fabric, producer, epoch, 0, "x"), impl.ErrFenced)
		fabricRefused(t, "End by another number", impl.End(back.Fabric, producer, epoch, true), impl.ErrFenced)
	}
	fabricRefused(t, "Send by the new one, nothing begun", impl.Send(back.Fabric, producer, back.N, 0, "x"), impl.ErrState)
	fabricRefused(t, "End by the new one, nothing begun", impl.End(back.Fabric, producer, back.N, true), impl.ErrState)
	if f.Now <= impl.MaxTime-100 && len(f.Txns) < impl.MaxTxns {
		begun := impl.Begin(back.Fabric, producer, back.N, 5)
		same(t, "Begin by the new one", [2]int64{begun.N, begun.Code}, [2]int64{int64(len(f.Txns)) + 1, impl.OK})
		same(t, "End by the new one", impl.End(begun.Fabric, producer, back.N, true).N, begun.N)
	}
}

// Promise 7: what was open under the old number is taken back, and said so on
// each ring on which something of it lies; nothing else is changed.
func TestOpenIsTakenBack(t *testing.T) {
	for _, f := range rightFabrics() {
		for producer := int64(1); producer <= 4; producer++ {
			number := impl.OpenOf(f, producer)
			back := impl.Init(f, producer)
			if back.Code != impl.OK {
				continue
			}
			same(t, "open still", impl.OpenOf(back.Fabric, producer), 0)
			for i, x := range back.Fabric.Txns {
				want := f.Txns[i]
				if int64(i)+1 == number {
					want.State, want.Left = impl.TxAbort, slices.Clone(want.Rings)
				}
				sameTxn(t, "a Txn", x, want)
			}
			if number > 0 {
				holdsTakenBack(t, f, saidAll(t, back.Fabric), number)
			}
		}
	}
}

func holdsTakenBack(t *testing.T, before, after impl.Fabric, number int64) {
	t.Helper()
	rec := impl.Rec{Kind: impl.RcAbort, Txn: number}
	for ring, r := range after.Rings {
		said := 0
		for _, text := range r.Recs[len(before.Rings[ring].Recs):] {
			if text == recText(rec) {
				said++
			}
		}
		want := 0
		if slices.Contains(before.Txns[number-1].Rings, int64(ring)) {
			want = 1
		}
		same(t, "how often it is said on a ring", said, want)
	}
}

// A walk from hand to hand: two producers, one of which comes back.
func TestComesBack(t *testing.T) {
	f := impl.FabricNew(2, 8).Fabric
	f = impl.Init(f, 1).Fabric
	f = impl.Init(f, 2).Fabric
	f = impl.Begin(f, 1, 1, 20).Fabric
	f = impl.Begin(f, 2, 1, 20).Fabric
	f = impl.Send(f, 1, 1, 0, "old").Fabric
	f = impl.Send(f, 2, 1, 0, "other").Fabric
	f = impl.Send(f, 1, 1, 1, "old").Fabric
	f = impl.Init(f, 1).Fabric
	fabricRefused(t, "who it was ahead", impl.Send(f, 1, 1, 1, "late"), impl.ErrFenced)
	fabricRefused(t, "who it was ahead", impl.End(f, 1, 1, true), impl.ErrFenced)
	f = impl.Begin(f, 1, 2, 20).Fabric
	f = impl.Send(f, 1, 2, 1, "new").Fabric
	f = impl.End(f, 1, 2, true).Fabric
	f = impl.End(f, 2, 1, true).Fabric
	f = saidAll(t, f)
	want := impl.Fabric{
		Rings: []impl.Ring{
			ringWith(8, 0, dataRec(1, "old"), dataRec(2, "other"), impl.Rec{Kind: impl.RcAbort, Txn: 1}, impl.Rec{Kind: impl.RcCommit, Txn: 2}),
			ringWith(8, 0, dataRec(1, "old"), dataRec(3, "new"), impl.Rec{Kind: impl.RcAbort, Txn: 1}, impl.Rec{Kind: impl.RcCommit, Txn: 3}),
		},
		Epochs: []int64{2, 1, 0, 0},
		Txns: []impl.Txn{
			{Producer: 1, Epoch: 1, State: impl.TxAbort, Until: 20, Rings: []int64{0, 1}},
			{Producer: 2, Epoch: 1, State: impl.TxCommit, Until: 20, Rings: []int64{0}},
			{Producer: 1, Epoch: 2, State: impl.TxCommit, Until: 20, Rings: []int64{1}},
		},
	}
	sameFabric(t, "told", impl.FabricOut{Fabric: f}, impl.FabricOut{Fabric: want})
}
