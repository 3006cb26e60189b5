package tests

import (
	"math"
	"slices"
	"testing"

	"loop.example/g00643/impl"
)

func TestRingNew(t *testing.T) {
	for _, most := range []int64{4, 8, 16} {
		sameRing(t, "RingNew", impl.RingNew(most), impl.RingOut{Ring: impl.Ring{Cap: most}})
	}
	for _, most := range wrongCaps() {
		ringRefused(t, "RingNew", impl.RingNew(most), impl.ErrForm)
	}
}

func TestRingEndAndRoom(t *testing.T) {
	for _, r := range rightRings() {
		same(t, "RingEnd", impl.RingEnd(r), r.First+int64(len(r.Recs)))
		same(t, "RingRoom", impl.RingRoom(r), r.Cap-int64(len(r.Recs)))
	}
	same(t, "RingEnd of an empty one", impl.RingEnd(impl.Ring{Cap: 8, First: 7}), 7)
	same(t, "RingRoom at MaxTime", impl.RingRoom(impl.Ring{Cap: 8, First: impl.MaxTime}), 8)
	same(t, "RingEnd at MaxTime", impl.RingEnd(impl.Ring{Cap: 8, First: impl.MaxTime}), impl.MaxTime)
}

// Promise 4: a ring has no more than it may; what is put is the last.
func TestRingPutIsTheLast(t *testing.T) {
	for _, most := range []int64{4, 8, 16} {
		r := impl.RingNew(most).Ring
		for place := range most {
			got := impl.RingPut(r, recAt(place))
			sameRing(t, "RingPut", got, impl.RingOut{Ring: ringOf(most, 0, int(place)+1)})
			r = got.Ring
			same(t, "the last one", impl.RingAt(r, impl.RingEnd(r)-1).Rec, recAt(place))
		}
		ringRefused(t, "RingPut into a full one", impl.RingPut(r, recAt(0)), impl.ErrFull)
	}
}

func TestRingPut(t *testing.T) {
	for _, r := range rightRings() {
		got := impl.RingPut(r, recAt(r.First+int64(len(r.Recs))))
		if len(r.Recs) == int(r.Cap) || r.First+int64(len(r.Recs)) == impl.MaxTime {
			ringRefused(t, "RingPut without room", got, impl.ErrFull)
		} else {
			sameRing(t, "RingPut", got, impl.RingOut{Ring: ringOf(r.Cap, r.First, len(r.Recs)+1, r.Cursors...)})
		}
	}
}

func TestRingPutAllRecs(t *testing.T) {
	for _, rec := range rightRecs() {
		want := impl.Ring{Cap: 4, First: 6, Recs: []string{textAt(0), wantSeal(bodyOf(rec))}}
		sameRing(t, "RingPut", impl.RingPut(impl.Ring{Cap: 4, First: 6, Recs: []string{textAt(0)}}, rec), impl.RingOut{Ring: want})
	}
}

// A Rec that is not right is named ahead of a ring that is full.
func TestRingPutWrongRec(t *testing.T) {
	for _, rec := range wrongRecs() {
		ringRefused(t, "into one with room", impl.RingPut(ringOf(4, 0, 3), rec), impl.ErrForm)
		ringRefused(t, "into a full one", impl.RingPut(ringOf(4, 0, 4), rec), impl.ErrForm)
		ringRefused(t, "at MaxTime", impl.RingPut(ringOf(4, impl.MaxTime, 0), rec), impl.ErrForm)
	}
}

func TestRingPutAtMaxTime(t *testing.T) {
	last := impl.RingPut(ringOf(8, impl.MaxTime-3, 2), recAt(impl.MaxTime-1))
	sameRing(t, "the last place of all", last, impl.RingOut{Ring: ringOf(8, impl.MaxTime-3, 3)})
	ringRefused(t, "one more", impl.RingPut(last.Ring, recAt(0)), impl.ErrFull)
	ringRefused(t, "empty, at MaxTime", impl.RingPut(ringOf(16, impl.MaxTime, 0), recAt(0)), impl.ErrFull)
	ringRefused(t, "full, at MaxTime", impl.RingPut(ringOf(4, impl.MaxTime-4, 4), recAt(0)), impl.ErrFull)
}

func TestRingAt(t *testing.T) {
	for _, r := range rightRings() {
		end := r.First + int64(len(r.Recs))
		for at := r.First; at < end; at++ {
			sameRing(t, "RingAt", impl.RingAt(r, at), impl.RingOut{Ring: r, Rec: recAt(at)})
		}
		for _, at := range []int64{math.MinInt64, -1, r.First - 2, r.First - 1, end, end + 1, r.First + r.Cap, impl.MaxTime, impl.MaxTime + 1, math.MaxInt64} {
			if at < r.First || at >= end {
				ringRefused(t, "RingAt of a place that is not there", impl.RingAt(r, at), impl.ErrRange)
			}
		}
	}
}

// Chapter 1: an answer is new memory.
func TestRingAnswersAreNewMemory(t *testing.T) {
	for _, r := range rightRings() {
		for _, got := range ringCalls(r) {
			if ringsShare(got.Ring, r) {
				t.Fatalf("an answer shares memory with the ring %s: %s", showRing(impl.RingOut{Ring: r}), showRing(got))
			}
			for _, text := range slices.Concat(r.Recs, got.Ring.Recs) {
				same(t, "Rec shares", sharesMemory(got.Rec.Data, text), false)
			}
		}
	}
	data := sampleText(16)
	put := impl.RingPut(impl.RingNew(4).Ring, impl.Rec{Kind: impl.RcData, Txn: 1, Data: data}).Ring
	same(t, "what is put shares", sharesMemory(put.Recs[0], data), false)
}

// Chapter 1: what is handed in is not changed, nor what lies behind the ends
// of its lists; ahead and behind are others' Recs and Cursors here.
func TestRingIsNotChanged(t *testing.T) {
	for _, r := range rightRings() {
		recs := append(append([]string{"ahead"}, r.Recs...), "behind", "behind", "behind")
		cursors := append(append([]impl.Cursor{{Group: -1, At: -1}}, r.Cursors...), impl.Cursor{Group: -2, At: -2}, impl.Cursor{Group: -3, At: -3}, impl.Cursor{Group: -4, At: -4})
		given := impl.Ring{Cap: r.Cap, First: r.First, Recs: recs[1 : len(r.Recs)+1], Cursors: cursors[1 : len(r.Cursors)+1]}
		wantRecs, wantCursors := append([]string{}, recs...), append([]impl.Cursor{}, cursors...)
		ringCalls(given)
		impl.RingRight(given)
		impl.RingEnd(given)
		impl.RingRoom(given)
		for i := range recs {
			same(t, "Recs", recs[i], wantRecs[i])
		}
		for i := range cursors {
			same(t, "Cursors", cursors[i], wantCursors[i])
		}
	}
}
