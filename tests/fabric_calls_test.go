package tests

import (
	"fmt"
	"math"
	"strings"
	"testing"

	"loop.example/g00643/impl"
)

// seeCall is told of a call, what it answered, and what chapter 6 asks.
type seeCall func(what string, got, want impl.FabricOut)

func someProducers() []int64 {
	return []int64{math.MinInt64, -1, 0, 1, 2, 3, 4, 5, 1<<32 + 1, math.MaxInt64}
}

// epochsNear are those of the producer and the ones beside it, and such as are
// never right.
func epochsNear(f impl.Fabric, producer int64) []int64 {
	out := []int64{-1, 0, 1}
	if len(f.Epochs) == 4 && producer >= 1 && producer <= 4 {
		own := f.Epochs[producer-1]
		out = append(out, own-1, own, own+1, -own, own+1<<32)
	}
	return out
}

func eachInit(f impl.Fabric, right bool, see seeCall) {
	for _, producer := range someProducers() {
		see(fmt.Sprint("Init ", producer), impl.Init(f, producer), wantInit(f, right, producer))
	}
}

func eachBegin(f impl.Fabric, right bool, see seeCall) {
	for _, producer := range someProducers() {
		for _, epoch := range epochsNear(f, producer) {
			for _, life := range []int64{math.MinInt64, -1, 0, 1, 2, 99, 100, 101, 1<<32 + 1, math.MaxInt64} {
				see(fmt.Sprint("Begin ", producer, epoch, life), impl.Begin(f, producer, epoch, life), wantBegin(f, right, producer, epoch, life))
			}
		}
	}
}

func eachSend(f impl.Fabric, right bool, see seeCall) {
	texts := []string{"", "x", strings.Repeat("\xff", 16), strings.Repeat("a", 17), strings.Repeat("a", 8001)}
	for _, producer := range someProducers() {
		for _, epoch := range epochsNear(f, producer) {
			for _, ring := range []int64{math.MinInt64, -1, 0, 1, 2, 3, 4, 1 << 32, math.MaxInt64} {
				for _, data := range texts {
					see(fmt.Sprint("Send ", producer, epoch, ring, len(data)), impl.Send(f, producer, epoch, ring, data), wantSend(f, right, producer, epoch, ring, data))
				}
			}
		}
	}
}

func eachEnd(f impl.Fabric, right bool, see seeCall) {
	for _, producer := range someProducers() {
		for _, epoch := range epochsNear(f, producer) {
			for _, commit := range []bool{true, false} {
				see(fmt.Sprint("End ", producer, epoch, commit), impl.End(f, producer, epoch, commit), wantEnd(f, right, producer, epoch, commit))
			}
		}
	}
}

func eachHelpAndTick(f impl.Fabric, right bool, see seeCall) {
	see("Help", impl.Help(f), wantHelp(f, right))
	rest := impl.MaxTime - f.Now
	for _, by := range []int64{math.MinInt64, -1, 0, 1, 2, 3, 4, 10, 99, 100, 101, rest - 1, rest, rest + 1, impl.MaxTime, impl.MaxTime + 1, 1 << 32, math.MaxInt64 - 1, math.MaxInt64} {
		see(fmt.Sprint("Tick ", by), impl.Tick(f, by), wantTick(f, right, by))
	}
}

// eachFabricCall makes calls of all functions that answer a FabricOut of a
// Fabric, such as go well and such as have one fault, or several at once.
func eachFabricCall(f impl.Fabric, right bool, see seeCall) {
	eachInit(f, right, see)
	eachBegin(f, right, see)
	eachSend(f, right, see)
	eachEnd(f, right, see)
	eachHelpAndTick(f, right, see)
}

// Promises 6 and 7: what each call answers, and that it stays right.
func TestFabricCalls(t *testing.T) {
	for _, f := range rightFabrics() {
		eachFabricCall(f, true, func(what string, got, want impl.FabricOut) {
			sameFabric(t, what, got, want)
			if got.Code == impl.OK && !(fabricIsRight(got.Fabric) && impl.FabricRight(got.Fabric)) {
				t.Fatalf("%s: is no more right: %s", what, showFabric(got))
			}
		})
	}
}

func TestCallsOfWrongFabrics(t *testing.T) {
	for _, w := range fewWrongFabrics() {
		eachFabricCall(w.fabric, false, func(what string, got, want impl.FabricOut) {
			sameFabric(t, w.what+": "+what, got, want)
		})
	}
	for _, w := range wrongFabrics() {
		fabricRefused(t, w.what+": Init", impl.Init(w.fabric, 2), impl.ErrForm)
		fabricRefused(t, w.what+": Begin", impl.Begin(w.fabric, 2, 1, 1), impl.ErrForm)
		fabricRefused(t, w.what+": Send", impl.Send(w.fabric, 1, 3, 0, "x"), impl.ErrForm)
		fabricRefused(t, w.what+": End", impl.End(w.fabric, 1, 3, true), impl.ErrForm)
		fabricRefused(t, w.what+": Help", impl.Help(w.fabric), impl.ErrForm)
		fabricRefused(t, w.what+": Tick", impl.Tick(w.fabric, 0), impl.ErrForm)
	}
}

// Chapter 1: a text that is too long to be handed in is named ahead of all.
func TestSendOfLongText(t *testing.T) {
	for _, w := range fewWrongFabrics() {
		fabricRefused(t, w.what, impl.Send(w.fabric, 1, 3, 0, strings.Repeat("a", 8000)), impl.ErrForm)
		fabricRefused(t, w.what, impl.Send(w.fabric, 1, 3, 0, strings.Repeat("a", 8001)), impl.ErrSize)
		fabricRefused(t, w.what, impl.Send(w.fabric, 9, 9, 9, strings.Repeat("a", 100000)), impl.ErrSize)
	}
	f := busyFabric()
	for _, data := range dataTexts() {
		got := impl.Send(f, 1, 3, 0, data)
		sameFabric(t, "Data that fits", got, wantSend(f, true, 1, 3, 0, data))
		same(t, "Data that fits", got.Code, impl.OK)
	}
	for _, data := range longTexts() {
		code := int64(impl.ErrForm)
		if len(data) > 8000 {
			code = impl.ErrSize
		}
		fabricRefused(t, "Data that is too long", impl.Send(f, 1, 3, 0, data), code)
		fabricRefused(t, "Data that is too long, fenced", impl.Send(f, 1, 2, 0, data), code)
	}
}

func TestInitByHand(t *testing.T) {
	f := busyFabric()
	want := busyFabric()
	want.Epochs = []int64{4, 1, 0, impl.MaxTime}
	want.Txns[3].State, want.Txns[3].Left = impl.TxAbort, []int64{0, 1}
	sameFabric(t, "one is open", impl.Init(f, 1), impl.FabricOut{Fabric: want, N: 4})
	want = busyFabric()
	want.Epochs = []int64{3, 2, 0, impl.MaxTime}
	sameFabric(t, "none is open", impl.Init(f, 2), impl.FabricOut{Fabric: want, N: 2})
	want.Epochs = []int64{3, 1, 1, impl.MaxTime}
	sameFabric(t, "for the first time", impl.Init(f, 3), impl.FabricOut{Fabric: want, N: 1})
	fabricRefused(t, "MaxTime", impl.Init(f, 4), impl.ErrFull)
	fabricRefused(t, "no producer", impl.Init(f, 0), impl.ErrForm)
	fabricRefused(t, "no producer", impl.Init(f, 5), impl.ErrForm)
	f.Epochs[3], f.Txns[4].Epoch = impl.MaxTime-1, impl.MaxTime-1
	want = busyFabric()
	want.Txns[4].Epoch, want.Txns[4].State = impl.MaxTime-1, impl.TxAbort
	sameFabric(t, "to MaxTime, open with nothing anywhere", impl.Init(f, 4), impl.FabricOut{Fabric: want, N: impl.MaxTime})
}

func TestBeginByHand(t *testing.T) {
	f := busyFabric()
	want := busyFabric()
	want.Txns = append(want.Txns, impl.Txn{Producer: 2, Epoch: 1, State: impl.TxOpen, Until: 51})
	sameFabric(t, "life of 1", impl.Begin(f, 2, 1, 1), impl.FabricOut{Fabric: want, N: 6})
	want.Txns[5].Until = 150
	sameFabric(t, "life of 100", impl.Begin(f, 2, 1, 100), impl.FabricOut{Fabric: want, N: 6})
	fabricRefused(t, "life of 0", impl.Begin(f, 2, 1, 0), impl.ErrForm)
	fabricRefused(t, "life of 101", impl.Begin(f, 2, 1, 101), impl.ErrForm)
	fabricRefused(t, "life of 101, fenced", impl.Begin(f, 2, 2, 101), impl.ErrForm)
	fabricRefused(t, "an Epoch to come", impl.Begin(f, 2, 2, 1), impl.ErrFenced)
	fabricRefused(t, "0, that is its Epoch", impl.Begin(f, 3, 0, 1), impl.ErrFenced)
	fabricRefused(t, "0", impl.Begin(f, 1, 0, 1), impl.ErrFenced)
	fabricRefused(t, "fenced, and one is open", impl.Begin(f, 1, 2, 1), impl.ErrFenced)
	fabricRefused(t, "one is open", impl.Begin(f, 1, 3, 1), impl.ErrState)
	full := fullFabric(1)
	fabricRefused(t, "MaxTxns, and one is open", impl.Begin(full, 4, 2, 1), impl.ErrState)
	fabricRefused(t, "MaxTxns", impl.Begin(full, 3, 2, 1), impl.ErrFull)
	full.Txns = full.Txns[:11]
	same(t, "one less than MaxTxns", impl.Begin(full, 3, 2, 1).N, impl.MaxTxns)
	last := impl.Begin(lateFabric(impl.MaxTime-100), 3, 1, 100)
	same(t, "until MaxTime", last.Fabric.Txns[2].Until, impl.MaxTime)
	fabricRefused(t, "Now is too late", impl.Begin(lateFabric(impl.MaxTime-99), 3, 1, 1), impl.ErrForm)
	fabricRefused(t, "Now is too late, fenced", impl.Begin(lateFabric(impl.MaxTime-99), 3, 2, 1), impl.ErrForm)
}

// Promise 6: what is sent stands at its place.
func TestSendByHand(t *testing.T) {
	f := busyFabric()
	want := busyFabric()
	want.Rings[1].Recs = append(want.Rings[1].Recs, recText(dataRec(4, "hi")))
	sameFabric(t, "something lies there", impl.Send(f, 1, 3, 1, "hi"), impl.FabricOut{Fabric: want, N: 5})
	want = busyFabric()
	want.Rings[2].Recs = append(want.Rings[2].Recs, recText(dataRec(5, "")))
	want.Txns[4].Rings = []int64{2}
	fabricRefused(t, "room for what is owed, it, and not how it ends", impl.Send(f, 4, impl.MaxTime, 2, ""), impl.ErrFull)
	f.Rings[2].Cap, want.Rings[2].Cap = 8, 8
	sameFabric(t, "nothing lies there", impl.Send(f, 4, impl.MaxTime, 2, ""), impl.FabricOut{Fabric: want, N: 8})
	fabricRefused(t, "fenced, no such Ring", impl.Send(f, 1, 2, 3, "x"), impl.ErrFenced)
	fabricRefused(t, "no such Ring, none open", impl.Send(f, 2, 1, 3, "x"), impl.ErrRange)
	fabricRefused(t, "no such Ring", impl.Send(f, 1, 3, -1, "x"), impl.ErrRange)
	fabricRefused(t, "none open", impl.Send(f, 2, 1, 0, "x"), impl.ErrState)
}

// Where there is just room enough, and one less; likewise of places.
func TestSendRoom(t *testing.T) {
	for _, most := range []int64{4, 8, 16} {
		for owed := 1; owed <= min(3, int(most)-2); owed++ {
			enough := int(most) - owed - 1
			f := tightFabric(most, 0, enough, owed)
			sent := impl.Send(f, 1, 1, 0, "x")
			same(t, "just room enough", [2]int64{sent.N, sent.Code}, [2]int64{int64(enough), impl.OK})
			fabricRefused(t, "and no more", impl.Send(sent.Fabric, 1, 1, 0, "x"), impl.ErrFull)
			f.Txns = append(f.Txns, impl.Txn{Producer: 4, Epoch: 1, State: impl.TxOpen, Until: 100})
			fabricRefused(t, "nothing there yet, one less", impl.Send(f, 4, 1, 0, "x"), impl.ErrFull)
			f.Rings[0].Recs = f.Rings[0].Recs[1:]
			sent = impl.Send(f, 4, 1, 0, "x")
			same(t, "nothing there yet, enough", [2]int64{sent.N, sent.Code}, [2]int64{int64(enough) - 1, impl.OK})
		}
	}
	for owed := 1; owed <= 3; owed++ {
		f := tightFabric(16, int64(impl.MaxTime-2-owed-1), 2, owed)
		same(t, "just places enough", impl.Send(f, 1, 1, 0, "x").N, int64(impl.MaxTime-owed-1))
		f.Rings[0].First++
		fabricRefused(t, "one place less", impl.Send(f, 1, 1, 0, "x"), impl.ErrFull)
		f.Txns = append(f.Txns, impl.Txn{Producer: 4, Epoch: 1, State: impl.TxOpen, Until: 100})
		f.Rings[0].First--
		fabricRefused(t, "nothing there yet, one place less", impl.Send(f, 4, 1, 0, "x"), impl.ErrFull)
		f.Rings[0].First--
		same(t, "nothing there yet, places enough", impl.Send(f, 4, 1, 0, "x").N, int64(impl.MaxTime-owed-2))
	}
}

func TestEndByHand(t *testing.T) {
	f := busyFabric()
	want := busyFabric()
	want.Txns[3].State, want.Txns[3].Left = impl.TxCommit, []int64{0, 1}
	sameFabric(t, "commit", impl.End(f, 1, 3, true), impl.FabricOut{Fabric: want, N: 4})
	want.Txns[3].State = impl.TxAbort
	sameFabric(t, "take back", impl.End(f, 1, 3, false), impl.FabricOut{Fabric: want, N: 4})
	want = busyFabric()
	want.Txns[4].State = impl.TxCommit
	sameFabric(t, "nothing anywhere", impl.End(f, 4, impl.MaxTime, true), impl.FabricOut{Fabric: want, N: 5})
	fabricRefused(t, "none open", impl.End(f, 2, 1, true), impl.ErrState)
	fabricRefused(t, "fenced, none open", impl.End(f, 2, 2, true), impl.ErrFenced)
	fabricRefused(t, "fenced", impl.End(f, 1, 2, false), impl.ErrFenced)
	fabricRefused(t, "0", impl.End(f, 3, 0, true), impl.ErrFenced)
	fabricRefused(t, "no producer", impl.End(f, 5, 0, true), impl.ErrForm)
}

// What is Left is said one by one: the first Txn first, and on its first Ring.
func TestHelpByHand(t *testing.T) {
	want := busyFabric()
	got := impl.FabricOut{Fabric: busyFabric()}
	said := []struct {
		number, ring, kind int64
		left               []int64
	}{{2, 0, impl.RcAbort, []int64{2}}, {2, 2, impl.RcAbort, nil}, {3, 1, impl.RcCommit, []int64{2}}, {3, 2, impl.RcCommit, nil}}
	for _, s := range said {
		r := &want.Rings[s.ring]
		r.Recs = append(r.Recs, recText(impl.Rec{Kind: s.kind, Txn: s.number}))
		want.Txns[s.number-1].Left = s.left
		got = impl.Help(got.Fabric)
		sameFabric(t, "Help", got, impl.FabricOut{Fabric: want, N: s.number})
	}
	fabricRefused(t, "nothing is Left", impl.Help(got.Fabric), impl.ErrNone)
	fabricRefused(t, "no Txn", impl.Help(emptyFabric(1, 4)), impl.ErrNone)
}

func TestTickByHand(t *testing.T) {
	f := busyFabric()
	sameFabric(t, "by 0", impl.Tick(f, 0), impl.FabricOut{Fabric: f})
	want := busyFabric()
	want.Now = 51
	want.Txns[3].State, want.Txns[3].Left = impl.TxAbort, []int64{0, 1}
	sameFabric(t, "one Until is just reached", impl.Tick(f, 1), impl.FabricOut{Fabric: want, N: 1})
	want.Now = 149
	sameFabric(t, "the other one not yet", impl.Tick(f, 99), impl.FabricOut{Fabric: want, N: 1})
	want.Now = 150
	want.Txns[4].State = impl.TxAbort
	sameFabric(t, "both", impl.Tick(f, 100), impl.FabricOut{Fabric: want, N: 2})
	want.Now = impl.MaxTime
	sameFabric(t, "to MaxTime", impl.Tick(f, impl.MaxTime-50), impl.FabricOut{Fabric: want, N: 2})
	fabricRefused(t, "one more", impl.Tick(f, impl.MaxTime-49), impl.ErrForm)
	fabricRefused(t, "below 0", impl.Tick(f, -1), impl.ErrForm)
	fabricRefused(t, "as much as can be", impl.Tick(f, math.MaxInt64), impl.ErrForm)
	same(t, "four at once", impl.Tick(fullFabric(4), 11).N, 4)
	same(t, "three of four", impl.Tick(fullFabric(4), 10).N, 3)
}
