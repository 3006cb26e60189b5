package tests

import (
	"fmt"
	"math"
	"math/rand"
	"slices"
	"testing"

	"loop.example/g00643/impl"
)

type wrongFabric struct {
	what   string
	fabric impl.Fabric
}

// spoiler gathers fabrics that are the same right one but for one change each.
type spoiler struct {
	good impl.Fabric
	out  []wrongFabric
}

func (s *spoiler) with(what string, change func(f *impl.Fabric)) {
	bad := cloneFabric(s.good)
	change(&bad)
	s.out = append(s.out, wrongFabric{what, bad})
}

func fabricsOfWrongSizes() []wrongFabric {
	s := &spoiler{good: busyFabric()}
	s.with("nothing at all", func(f *impl.Fabric) { *f = impl.Fabric{} })
	s.with("no Rings, with Txns", func(f *impl.Fabric) { f.Rings = nil })
	s.with("five Rings", func(f *impl.Fabric) {
		f.Rings = append(f.Rings, impl.Ring{Cap: 4}, impl.Ring{Cap: 4})
	})
	s.with("no Epochs", func(f *impl.Fabric) { f.Epochs = nil })
	s.with("thirteen Txns", func(f *impl.Fabric) {
		for len(f.Txns) < 13 {
			f.Txns = append(f.Txns, f.Txns[0])
		}
	})
	s.with("a great many Txns", func(f *impl.Fabric) { f.Txns = append(f.Txns, make([]impl.Txn, 100000)...) })
	for _, n := range []int64{math.MinInt64, -impl.MaxTime, -1, impl.MaxTime + 1, 1<<32 + 50, math.MaxInt64} {
		s.with("Now", func(f *impl.Fabric) { f.Now = n })
		for i := range 4 {
			s.with("an Epoch", func(f *impl.Fabric) { f.Epochs[i] = n })
		}
	}
	s.good = emptyFabric(4, 4)
	s.with("no Rings", func(f *impl.Fabric) { f.Rings = nil })
	for _, count := range []int{5, 6, 401, 10000} {
		s.with("more Rings", func(f *impl.Fabric) { *f = emptyFabric(count, 4) })
	}
	for _, count := range []int{0, 1, 2, 3, 5, 6, 8, 401, 10000} {
		s.with("other Epochs than four", func(f *impl.Fabric) { f.Epochs = make([]int64, count) })
	}
	for _, n := range []int64{-1, impl.MaxTime + 1} {
		s.with("Now of an empty one", func(f *impl.Fabric) { f.Now = n })
		s.with("an Epoch of an empty one", func(f *impl.Fabric) { f.Epochs[3] = n })
	}
	return s.out
}

// fabricsOfWrongParts have a Ring, or a Txn, that is not right itself.
func fabricsOfWrongParts() []wrongFabric {
	s := &spoiler{good: busyFabric()}
	for i, w := range wrongRings() {
		s.with("Ring: "+w.what, func(f *impl.Fabric) { f.Rings[i%3] = w.ring })
	}
	for i, w := range txnsNotRight() {
		s.with("Txn: "+w.what, func(f *impl.Fabric) { f.Txns[i%5] = w.txn })
	}
	s.good = emptyFabric(4, 8)
	for i, w := range wrongRings() {
		s.with("one Ring of four: "+w.what, func(f *impl.Fabric) { f.Rings[i%4] = w.ring })
	}
	s.good.Epochs = []int64{impl.MaxTime, impl.MaxTime, 7, impl.MaxTime}
	for _, w := range txnsNotRight() {
		s.with("the one Txn: "+w.what, func(f *impl.Fabric) { f.Txns = []impl.Txn{w.txn} })
	}
	return s.out
}

func fabricsOfWrongTxns() []wrongFabric {
	s := &spoiler{good: busyFabric()}
	s.with("an Epoch above that of its producer, ended", func(f *impl.Fabric) { f.Txns[0].Epoch = 4 })
	s.with("an Epoch above that of its producer, open", func(f *impl.Fabric) { f.Txns[3].Epoch = 4 })
	s.with("of a producer of Epoch 0", func(f *impl.Fabric) { f.Txns[0].Producer = 3 })
	s.with("the producer's Epoch is one less", func(f *impl.Fabric) { f.Epochs[0] = 2 })
	s.with("the producer's Epoch is none", func(f *impl.Fabric) { f.Epochs[1] = 0 })
	s.with("the producer's Epoch is one more than that of its TxOpen", func(f *impl.Fabric) { f.Epochs[0] = 4 })
	s.with("TxOpen of an older Epoch", func(f *impl.Fabric) { f.Txns[3].Epoch = 2 })
	s.with("TxOpen of an older Epoch, nothing anywhere", func(f *impl.Fabric) { f.Txns[4].Epoch-- })
	s.with("Until is Now", func(f *impl.Fabric) { f.Txns[3].Until = 50 })
	s.with("Until is ahead of Now", func(f *impl.Fabric) { f.Txns[3].Until = 49 })
	s.with("Now is Until", func(f *impl.Fabric) { f.Now = 51 })
	s.with("Now is Until of the other one", func(f *impl.Fabric) { f.Txns[3].Until = 1000; f.Now = 150 })
	s.with("two TxOpen of one producer", func(f *impl.Fabric) { f.Txns = append(f.Txns, f.Txns[3]) })
	s.with("two TxOpen of one producer, nothing anywhere", func(f *impl.Fabric) { f.Txns = append(f.Txns, f.Txns[4]) })
	s.with("three TxOpen of one producer", func(f *impl.Fabric) { f.Txns = append(f.Txns, f.Txns[4], f.Txns[4]) })
	s.with("two TxOpen, the first of an older Epoch", func(f *impl.Fabric) {
		x := f.Txns[4]
		f.Txns[4].Epoch--
		f.Txns = append(f.Txns, x)
	})
	return s.out
}

// fabricOfTxn has that many empty Rings, and the one Txn.
func fabricOfTxn(rings int, x impl.Txn) impl.Fabric {
	f := emptyFabric(rings, 4)
	f.Epochs[0] = 1
	f.Txns = []impl.Txn{x}
	return f
}

// txnsOfRings have each Rings that there may be, in each State, and of those
// that ended all of them Left, the last one, or none.
func txnsOfRings() []impl.Txn {
	var out []impl.Txn
	for mask := range 16 {
		rings := ringsOf(mask)
		out = append(out, impl.Txn{Producer: 1, Epoch: 1, State: impl.TxOpen, Until: 5, Rings: rings})
		for _, state := range []int64{impl.TxCommit, impl.TxAbort} {
			for _, left := range [][]int64{nil, rings, rings[max(len(rings)-1, 0):]} {
				out = append(out, impl.Txn{Producer: 1, Epoch: 1, State: state, Until: 5, Rings: rings, Left: slices.Clone(left)})
			}
		}
	}
	return out
}

// fabricsOfRingsNotThere have a Txn with a Ring that the fabric has not.
func fabricsOfRingsNotThere() []wrongFabric {
	s := &spoiler{good: busyFabric()}
	for at, x := range s.good.Txns {
		s.with(fmt.Sprint("a Txn has Ring 3 of three, State ", x.State), func(f *impl.Fabric) { f.Txns[at].Rings = append(f.Txns[at].Rings, 3) })
	}
	s.with("Ring 3 of three is Left", func(f *impl.Fabric) {
		f.Txns[1].Rings = append(f.Txns[1].Rings, 3)
		f.Txns[1].Left = append(f.Txns[1].Left, 3)
	})
	s.with("the last Ring is not there", func(f *impl.Fabric) { f.Rings = f.Rings[:2] })
	s.good = fullFabric(2)
	s.with("the last Ring of four is not there", func(f *impl.Fabric) { f.Rings = f.Rings[:3] })
	s.good = fabricOfTxn(1, impl.Txn{Producer: 1, Epoch: 1, State: impl.TxAbort, Until: 5, Rings: []int64{1}, Left: []int64{1}})
	s.with("Ring 1 of one is Left", func(f *impl.Fabric) {})
	s.with("Ring 1 of one, TxOpen", func(f *impl.Fabric) { f.Txns[0].State, f.Txns[0].Left = impl.TxOpen, nil })
	s.with("Ring 1 of one, said everywhere", func(f *impl.Fabric) { f.Txns[0].Left = nil })
	return s.out
}

func fabricsOfWrongRecs() []wrongFabric {
	s := &spoiler{good: busyFabric()}
	for _, number := range []int64{6, 7, 12, 13, impl.MaxTime} {
		for _, rec := range []impl.Rec{dataRec(number, "x"), {Kind: impl.RcCommit, Txn: number}, {Kind: impl.RcAbort, Txn: number}} {
			s.with("a Rec of a number that no Txn has", func(f *impl.Fabric) { f.Rings[0].Recs[1] = recText(rec) })
		}
	}
	for _, rec := range []impl.Rec{dataRec(2, "x"), {Kind: impl.RcAbort, Txn: 2}, dataRec(5, "x")} {
		s.with("a Rec of a Txn that has not that Ring", func(f *impl.Fabric) { f.Rings[1].Recs[4] = recText(rec) })
	}
	s.with("a Ring no more among Rings", func(f *impl.Fabric) { f.Txns[0].Rings = []int64{0} })
	s.with("no Ring among Rings, TxOpen", func(f *impl.Fabric) { f.Txns[3].Rings = nil })
	s.with("Rings of others", func(f *impl.Fabric) { f.Rings[0], f.Rings[2] = f.Rings[2], f.Rings[0] })
	s.with("no Txns", func(f *impl.Fabric) { f.Txns = nil })
	s.with("the first Txn is not there", func(f *impl.Fabric) { f.Txns = f.Txns[1:] })
	s.good = emptyFabric(1, 4)
	s.with("a Rec without any Txn", func(f *impl.Fabric) { f.Rings[0].Recs = []string{recText(dataRec(1, ""))} })
	return s.out
}

// fabricsWithoutRoom owe one more than there may be.
func fabricsWithoutRoom() []wrongFabric {
	var out []wrongFabric
	for _, most := range []int64{4, 8, 16} {
		for recs := range int(most) + 1 {
			owed := int(most) - recs + 1
			if owed <= impl.MaxTxns {
				out = append(out, wrongFabric{fmt.Sprint("room for one less of Cap ", most), tightFabric(most, 0, recs, owed)})
			}
			owed = min(owed-1, impl.MaxTxns)
			if owed > 0 {
				out = append(out, wrongFabric{fmt.Sprint("places for one less of Cap ", most), tightFabric(most, int64(impl.MaxTime-recs-owed+1), recs, owed)})
			}
		}
	}
	s := &spoiler{good: tightFabric(4, 0, 2, 2)}
	s.with("one more is put", func(f *impl.Fabric) { f.Rings[0].Recs = append(f.Rings[0].Recs, f.Rings[0].Recs[0]) })
	s.good = busyFabric()
	s.with("one more is owed behind three Recs", func(f *impl.Fabric) {
		f.Rings[2].Recs = append(f.Rings[2].Recs, f.Rings[2].Recs[0], f.Rings[2].Recs[0])
	})
	s.with("places for one less", func(f *impl.Fabric) { f.Rings[2] = ringWith(4, impl.MaxTime-2, dataRec(2, "")) })
	return append(out, s.out...)
}

func wrongFabrics() []wrongFabric {
	return slices.Concat(fabricsOfWrongSizes(), fabricsOfWrongParts(), fabricsOfWrongTxns(), fabricsOfRingsNotThere(), fabricsOfWrongRecs(), fabricsWithoutRoom())
}

// fewWrongFabrics are enough where many calls are made of each.
func fewWrongFabrics() []wrongFabric {
	return slices.Concat(fabricsOfWrongSizes()[:3], fabricsOfWrongTxns(), fabricsOfRingsNotThere(), fabricsOfWrongRecs(), fabricsWithoutRoom()[:4])
}

func TestFabricConstants(t *testing.T) {
	same(t, "constants of chapter 6", impl.MaxRings, 4)
}

func TestFabricRight(t *testing.T) {
	for _, f := range rightFabrics() {
		if !impl.FabricRight(f) {
			t.Errorf("right: %s", short(f))
		}
	}
	for _, w := range wrongFabrics() {
		if impl.FabricRight(w.fabric) {
			t.Errorf("not right: %s: %s", w.what, short(w.fabric))
		}
	}
}

// What is just on the right side of each edge of wrongFabrics.
func TestFabricRightAtTheEdges(t *testing.T) {
	s := &spoiler{good: busyFabric()}
	s.with("Now is one ahead of Until", func(f *impl.Fabric) { f.Txns[3].Until = 1000; f.Now = 149 })
	s.with("Until of one that ended is long past", func(f *impl.Fabric) { f.Txns[2].Until = 0 })
	s.with("Until of one that ended is to come", func(f *impl.Fabric) { f.Txns[2].Until = impl.MaxTime })
	s.with("four Rings", func(f *impl.Fabric) { f.Rings = append(f.Rings, impl.Ring{Cap: 4}) })
	s.with("twelve Txns", func(f *impl.Fabric) {
		for len(f.Txns) < 12 {
			f.Txns = append(f.Txns, f.Txns[0])
		}
	})
	s.with("TxOpen of each producer", func(f *impl.Fabric) {
		f.Epochs[2] = 9
		f.Txns = append(f.Txns, impl.Txn{Producer: 3, Epoch: 9, State: impl.TxOpen, Until: 51}, impl.Txn{Producer: 2, Epoch: 1, State: impl.TxOpen, Until: 52})
	})
	s.with("a Rec of the last Txn", func(f *impl.Fabric) {
		f.Txns[4].Rings = []int64{0}
		f.Rings[0].Recs[1] = recText(dataRec(5, "x"))
	})
	s.with("a Txn that has Rings, and no Rec there", func(f *impl.Fabric) { f.Txns[4].Rings = []int64{1} })
	s.with("room for just what is owed", func(f *impl.Fabric) { f.Rings[2].Recs = append(f.Rings[2].Recs, f.Rings[2].Recs[0]) })
	s.with("places for just what is owed", func(f *impl.Fabric) { f.Rings[2] = ringWith(4, impl.MaxTime-3, dataRec(2, "")) })
	s.with("lists that are empty", func(f *impl.Fabric) {
		*f = impl.Fabric{Rings: []impl.Ring{{Cap: 4, Recs: []string{}, Cursors: []impl.Cursor{}}}, Epochs: make([]int64, 4), Txns: []impl.Txn{}}
	})
	for _, w := range s.out {
		same(t, w.what, impl.FabricRight(w.fabric), true)
	}
	for _, most := range []int64{4, 8, 16} {
		for recs := range int(most) + 1 {
			owed := min(int(most)-recs, impl.MaxTxns)
			same(t, "tight room", impl.FabricRight(tightFabric(most, 0, recs, owed)), true)
			same(t, "tight places", impl.FabricRight(tightFabric(most, int64(impl.MaxTime-recs-owed), recs, owed)), true)
		}
	}
}

// changeFabric changes one number, list or text to one that is near an edge.
func changeFabric(dice *rand.Rand, f *impl.Fabric) {
	near := []int64{-1, 0, 1, 2, 3, 4, 5, 7, 8, 16, 49, 50, 51, 150, 151, impl.MaxTime - 1, impl.MaxTime, impl.MaxTime + 1}
	n := near[dice.Intn(len(near))]
	if len(f.Rings) > 0 && dice.Intn(3) == 0 {
		changeRing(dice, &f.Rings[dice.Intn(len(f.Rings))], n)
		return
	}
	if len(f.Txns) > 0 && dice.Intn(2) == 0 {
		changeTxn(dice, &f.Txns[dice.Intn(len(f.Txns))], n)
		return
	}
	switch dice.Intn(5) {
	case 0:
		f.Now = n
	case 1:
		f.Epochs[dice.Intn(4)] = n
	case 2:
		f.Txns = append(f.Txns, impl.Txn{Producer: 1 + dice.Int63n(4), Epoch: 1, State: 1 + dice.Int63n(3), Until: 100})
	case 3:
		f.Txns = f.Txns[:dice.Intn(len(f.Txns)+1)]
	case 4:
		f.Rings = f.Rings[:dice.Intn(len(f.Rings)+1)]
	}
}

func changeRing(dice *rand.Rand, r *impl.Ring, n int64) {
	switch dice.Intn(5) {
	case 0:
		r.Cap = n
	case 1:
		r.First, r.Cursors = n, nil
	case 2:
		r.Recs = r.Recs[:dice.Intn(len(r.Recs)+1)]
	default:
		r.Recs = append(r.Recs, recText(impl.Rec{Kind: 1 + dice.Int63n(3), Txn: 1 + dice.Int63n(6)}))
	}
}

func changeTxn(dice *rand.Rand, x *impl.Txn, n int64) {
	switch dice.Intn(6) {
	case 0:
		x.Producer = dice.Int63n(6)
	case 1:
		x.Epoch = n
	case 2:
		x.State = dice.Int63n(5)
	case 3:
		x.Until = n
	case 4:
		x.Rings = ringsOf(dice.Intn(16))
	case 5:
		x.Left = ringsOf(dice.Intn(16))
	}
}

// Of what is right, however it came about, all that is open can be ended, and
// all that ended be said.
func TestFabricRightByChance(t *testing.T) {
	dice := rand.New(rand.NewSource(6))
	starts := rightFabrics()
	var seen [2]int
	for i := range 60000 {
		f := cloneFabric(starts[i%len(starts)])
		for range 1 + dice.Intn(3) {
			changeFabric(dice, &f)
		}
		want := fabricIsRight(f)
		if got := impl.FabricRight(f); got != want {
			t.Fatalf("got %v, want %v: %q", got, want, fmt.Sprintf("%+v", f))
		}
		if want {
			seen[1]++
			holdsRoom(t, f, i%2 == 0)
		} else {
			seen[0]++
		}
	}
	if min(seen[0], seen[1]) < 5000 {
		t.Errorf("too few of one kind: %v", seen)
	}
}

// Promise 6: all that is right can be ended, and said to have ended: so a Txn
// has no Ring among its Rings that the fabric has not, however it may end.
func TestTxnOfARingThatIsNotThere(t *testing.T) {
	for rings := 1; rings <= impl.MaxRings; rings++ {
		for _, x := range txnsOfRings() {
			f := fabricOfTxn(rings, x)
			there := len(x.Rings) == 0 || slices.Max(x.Rings) < int64(rings)
			same(t, fmt.Sprint(rings, " Rings: ", x), impl.FabricRight(f), there)
			eachHelpAndTick(f, there, func(what string, got, want impl.FabricOut) {
				sameFabric(t, fmt.Sprint(rings, " Rings: ", x, ": ", what), got, want)
			})
			if !there {
				same(t, "OpenOf", impl.OpenOf(f, 1), 0)
				same(t, "Owed", impl.Owed(f, 0), 0)
				continue
			}
			holdsRoom(t, f, true)
			holdsRoom(t, impl.Init(f, 1).Fabric, true)
			holdsRoom(t, impl.Tick(f, 5).Fabric, true)
		}
	}
}

func TestFabricNew(t *testing.T) {
	numbers := []int64{math.MinInt64, -4, -1, 0, 1, 2, 3, 4, 5, 6, 7, 8, 9, 15, 16, 17, 400, 401, 1<<32 + 1, 1<<32 + 4, math.MaxInt64}
	for _, rings := range numbers {
		for _, most := range numbers {
			want := told(impl.ErrForm)
			if rings >= 1 && rings <= 4 && (most == 4 || most == 8 || most == 16) {
				want = impl.FabricOut{Fabric: emptyFabric(int(rings), most)}
			}
			got := impl.FabricNew(rings, most)
			sameFabric(t, fmt.Sprint("FabricNew of ", rings, " and ", most), got, want)
			same(t, "is right", impl.FabricRight(got.Fabric), want.Code == impl.OK)
			same(t, "shares memory within", sharesWithin(got.Fabric), false)
			same(t, "shares memory with another", fabricsShare(got.Fabric, impl.FabricNew(rings, most).Fabric), false)
		}
	}
}

func TestOpenOfAndOwed(t *testing.T) {
	f := busyFabric()
	for producer, want := range map[int64]int64{math.MinInt64: 0, -1: 0, 0: 0, 1: 4, 2: 0, 3: 0, 4: 5, 5: 0, 1<<32 + 1: 0, math.MaxInt64: 0} {
		same(t, fmt.Sprint("OpenOf ", producer), impl.OpenOf(f, producer), want)
	}
	for ring, want := range map[int64]int64{math.MinInt64: 0, -1: 0, 0: 2, 1: 2, 2: 2, 3: 0, 4: 0, 1 << 32: 0, math.MaxInt64: 0} {
		same(t, fmt.Sprint("Owed ", ring), impl.Owed(f, ring), want)
	}
	for _, f := range rightFabrics() {
		for n := int64(-1); n <= 5; n++ {
			same(t, "OpenOf", impl.OpenOf(f, n), int64(placeOfOpen(f, n)+1))
			want := 0
			if n >= 0 && n < int64(len(f.Rings)) {
				want = countOwed(f, int(n))
			}
			same(t, "Owed", impl.Owed(f, n), int64(want))
		}
	}
	for _, w := range wrongFabrics() {
		for n := int64(0); n <= 4; n++ {
			same(t, "OpenOf, not right: "+w.what, impl.OpenOf(w.fabric, n), 0)
			same(t, "Owed, not right: "+w.what, impl.Owed(w.fabric, n), 0)
		}
	}
}
