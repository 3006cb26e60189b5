package tests

import (
	"fmt"
	"reflect"
	"slices"
	"testing"

	"loop.example/g00643/impl"
)

func dataRec(txn int64, data string) impl.Rec {
	return impl.Rec{Kind: impl.RcData, Txn: txn, Data: data}
}

// recText is written here, not by RecBytes.
func recText(rec impl.Rec) string {
	return wantSeal(bodyOf(rec))
}

func ringWith(most, first int64, recs ...impl.Rec) impl.Ring {
	r := impl.Ring{Cap: most, First: first}
	for _, rec := range recs {
		r.Recs = append(r.Recs, recText(rec))
	}
	return r
}

func emptyFabric(rings int, most int64) impl.Fabric {
	f := impl.Fabric{Epochs: []int64{0, 0, 0, 0}}
	for range rings {
		f.Rings = append(f.Rings, impl.Ring{Cap: most})
	}
	return f
}

// busyFabric has something of each kind: what was said on all rings, on some
// and on none, committed and taken back, and two that are open, one of them
// with nothing anywhere; producers of many epochs, and of none; and cursors.
func busyFabric() impl.Fabric {
	first := ringWith(8, 40, dataRec(1, "a"), dataRec(2, "b"), impl.Rec{Kind: impl.RcCommit, Txn: 1}, dataRec(4, "c"))
	first.Cursors = []impl.Cursor{{Group: 2, At: 40}, {Group: 5, At: 43}}
	second := ringWith(16, 0, dataRec(1, ""), dataRec(3, "d"), dataRec(4, "e"), dataRec(4, "f"), impl.Rec{Kind: impl.RcCommit, Txn: 1})
	third := ringWith(4, 7, dataRec(2, "0123456789abcdef"))
	third.Cursors = []impl.Cursor{{Group: 9, At: 7}}
	return impl.Fabric{
		Rings:  []impl.Ring{first, second, third},
		Epochs: []int64{3, 1, 0, impl.MaxTime},
		Txns: []impl.Txn{
			{Producer: 1, Epoch: 1, State: impl.TxCommit, Until: 10, Rings: []int64{0, 1}},
			{Producer: 1, Epoch: 2, State: impl.TxAbort, Until: 30, Rings: []int64{0, 2}, Left: []int64{0, 2}},
			{Producer: 2, Epoch: 1, State: impl.TxCommit, Until: 60, Rings: []int64{0, 1, 2}, Left: []int64{1, 2}},
			{Producer: 1, Epoch: 3, State: impl.TxOpen, Until: 51, Rings: []int64{0, 1}},
			{Producer: 4, Epoch: impl.MaxTime, State: impl.TxOpen, Until: 150},
		},
		Now: 50,
	}
}

// tightFabric has one ring of that many Recs and so much that is owed, all of
// it open if it can be, that its room, or its places, are just enough.
func tightFabric(most, first int64, recs, owed int) impl.Fabric {
	f := impl.Fabric{Rings: []impl.Ring{{Cap: most, First: first}}, Epochs: []int64{1, 1, 1, 1}, Now: 9}
	for i := range max(owed, 1) {
		x := impl.Txn{Producer: 1, Epoch: 1, State: impl.TxCommit, Until: 9, Rings: []int64{0}}
		if i < owed {
			x.Left = []int64{0}
		}
		if i < owed && i < 4 {
			x = impl.Txn{Producer: int64(i) + 1, Epoch: 1, State: impl.TxOpen, Until: 10 + int64(i), Rings: []int64{0}}
		}
		f.Txns = append(f.Txns, x)
	}
	for i := range recs {
		f.Rings[0].Recs = append(f.Rings[0].Recs, recText(dataRec(1, string(rune('a'+i)))))
	}
	return f
}

// fullFabric has MaxTxns Txns, the last ones open.
func fullFabric(open int) impl.Fabric {
	f := emptyFabric(4, 16)
	f.Epochs = []int64{2, 2, 2, 2}
	for i := range impl.MaxTxns {
		x := impl.Txn{Producer: int64(i%4) + 1, Epoch: 1, State: impl.TxCommit, Until: 5, Rings: ringsOf(i), Left: ringsOf(i & 5)}
		if i >= impl.MaxTxns-open {
			x = impl.Txn{Producer: int64(i%4) + 1, Epoch: 2, State: impl.TxOpen, Until: int64(i), Rings: ringsOf(i)}
		}
		f.Txns = append(f.Txns, x)
	}
	return f
}

// lateFabric has a Now, and something open where that can be.
func lateFabric(now int64) impl.Fabric {
	f := emptyFabric(2, 4)
	f.Epochs = []int64{impl.MaxTime, impl.MaxTime - 1, 1, 0}
	f.Now = now
	f.Txns = []impl.Txn{{Producer: 3, Epoch: 1, State: impl.TxAbort, Until: 1, Rings: []int64{1}}}
	if now < impl.MaxTime {
		f.Txns = append(f.Txns, impl.Txn{Producer: 2, Epoch: impl.MaxTime - 1, State: impl.TxOpen, Until: min(now+100, impl.MaxTime), Rings: []int64{0}})
	}
	return f
}

// rightFabrics are made by hand, and stand at the edges that chapter 6 names.
func rightFabrics() []impl.Fabric {
	out := []impl.Fabric{busyFabric()}
	for rings := 1; rings <= impl.MaxRings; rings++ {
		for _, most := range []int64{4, 8, 16} {
			out = append(out, emptyFabric(rings, most))
		}
	}
	for recs := range 5 {
		for owed := 0; owed <= 4-recs; owed++ {
			most := int64(impl.MaxTime - recs - owed)
			out = append(out, tightFabric(4, 3, recs, owed), tightFabric(4, most, recs, owed), tightFabric(8, most, recs, owed), tightFabric(16, most-1, recs, owed), tightFabric(16, most-2, recs, owed))
		}
	}
	for open := range 5 {
		out = append(out, fullFabric(open))
	}
	for _, now := range []int64{0, 1, impl.MaxTime - 101, impl.MaxTime - 100, impl.MaxTime - 99, impl.MaxTime - 1, impl.MaxTime} {
		out = append(out, lateFabric(now))
	}
	return append(out, fabricsWithoutTxns()...)
}

// fabricsWithoutTxns have the greatest numbers that go without any Txn.
func fabricsWithoutTxns() []impl.Fabric {
	late := emptyFabric(2, 8)
	late.Rings[1].First = impl.MaxTime
	late.Rings[1].Cursors = []impl.Cursor{{Group: 3, At: impl.MaxTime}}
	late.Epochs = []int64{0, impl.MaxTime, 1, impl.MaxTime - 1}
	late.Now = impl.MaxTime
	once := emptyFabric(1, 4)
	once.Epochs = []int64{1, 1, 1, 1}
	return []impl.Fabric{late, once}
}

func cloneFabric(f impl.Fabric) impl.Fabric {
	out := impl.Fabric{Rings: slices.Clone(f.Rings), Epochs: slices.Clone(f.Epochs), Txns: slices.Clone(f.Txns), Now: f.Now}
	for i := range out.Rings {
		out.Rings[i].Recs = slices.Clone(out.Rings[i].Recs)
		out.Rings[i].Cursors = slices.Clone(out.Rings[i].Cursors)
	}
	for i := range out.Txns {
		out.Txns[i].Rings = slices.Clone(out.Txns[i].Rings)
		out.Txns[i].Left = slices.Clone(out.Txns[i].Left)
	}
	return out
}

// plainFabric makes an empty list and none the same.
func plainFabric(f impl.Fabric) impl.Fabric {
	out := impl.Fabric{Now: f.Now}
	for _, r := range f.Rings {
		out.Rings = append(out.Rings, plain(r))
	}
	out.Epochs = append(out.Epochs, f.Epochs...)
	for _, x := range f.Txns {
		out.Txns = append(out.Txns, plainTxn(x))
	}
	return out
}

// sameFabric holds whole answers against each other: Fabric, N and Code. It
// leaves off at the first fault: many calls are made, and a Fabric is long.
func sameFabric(t *testing.T, what string, got, want impl.FabricOut) {
	t.Helper()
	got.Fabric, want.Fabric = plainFabric(got.Fabric), plainFabric(want.Fabric)
	if !reflect.DeepEqual(got, want) {
		t.Fatalf("%s:\n got %s\nwant %s", what, showFabric(got), showFabric(want))
	}
}

func showFabric(x impl.FabricOut) string {
	return fmt.Sprintf("code %d, n %d, %q", x.Code, x.N, fmt.Sprintf("%+v", x.Fabric))
}

func fabricRefused(t *testing.T, what string, got impl.FabricOut, code int64) {
	t.Helper()
	sameFabric(t, what, got, impl.FabricOut{Code: code})
}

func numberLists(f impl.Fabric) [][]int64 {
	out := [][]int64{f.Epochs}
	for _, x := range f.Txns {
		out = append(out, x.Rings, x.Left)
	}
	return out
}

// fabricsShare: do two Fabrics have any memory in common?
func fabricsShare(a, b impl.Fabric) bool {
	if listsOverlap(a.Rings, b.Rings) || listsOverlap(a.Txns, b.Txns) {
		return true
	}
	for _, one := range a.Rings {
		for _, other := range b.Rings {
			if ringsShare(one, other) {
				return true
			}
		}
	}
	for _, one := range numberLists(a) {
		for _, other := range numberLists(b) {
			if listsOverlap(one, other) {
				return true
			}
		}
	}
	return false
}

// sharesWithin: do two lists of the one Fabric have any memory in common?
func sharesWithin(f impl.Fabric) bool {
	for i, one := range f.Rings {
		for _, other := range f.Rings[:i] {
			if ringsShare(one, other) {
				return true
			}
		}
	}
	lists := numberLists(f)
	for i, one := range lists {
		for _, other := range lists[:i] {
			if listsOverlap(one, other) {
				return true
			}
		}
	}
	return false
}
