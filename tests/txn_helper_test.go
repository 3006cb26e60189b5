package tests

import (
	"math"
	"reflect"
	"slices"
	"testing"

	"loop.example/g00643/impl"
)

// ringsOf are the rings whose bits are in the mask, rising: all that Rings and
// Left may be are the masks 0 to 15.
func ringsOf(mask int) []int64 {
	var out []int64
	for ring := range int64(4) {
		if mask>>ring&1 == 1 {
			out = append(out, ring)
		}
	}
	return out
}

func openTxn(rings ...int64) impl.Txn {
	return impl.Txn{Producer: 2, Epoch: 7, State: impl.TxOpen, Until: 40, Rings: rings}
}

func endedTxn(state int64, rings, left []int64) impl.Txn {
	return impl.Txn{Producer: 2, Epoch: 7, State: state, Until: 40, Rings: rings, Left: left}
}

func rightOpenTxns() []impl.Txn {
	var out []impl.Txn
	for mask := range 16 {
		out = append(out, openTxn(ringsOf(mask)...))
		for producer := int64(1); producer <= 4; producer++ {
			for _, epoch := range []int64{1, 2, impl.MaxTime - 1, impl.MaxTime} {
				for _, until := range []int64{0, 1, impl.MaxTime - 1, impl.MaxTime} {
					out = append(out, impl.Txn{Producer: producer, Epoch: epoch, State: impl.TxOpen, Until: until, Rings: ringsOf(mask)})
				}
			}
		}
	}
	return out
}

// rightEndedTxns have all Rings there may be, and of each all that may be Left.
func rightEndedTxns() []impl.Txn {
	var out []impl.Txn
	for mask := range 16 {
		for left := range 16 {
			if left&^mask == 0 {
				out = append(out, endedTxn(impl.TxCommit, ringsOf(mask), ringsOf(left)), endedTxn(impl.TxAbort, ringsOf(mask), ringsOf(left)))
			}
		}
	}
	return out
}

type wrongTxn struct {
	what string
	txn  impl.Txn
}

// txnsOfWrongNumbers are right but for one number, of each State.
func txnsOfWrongNumbers() []wrongTxn {
	out := []wrongTxn{{"nothing at all", impl.Txn{}}}
	for _, good := range []impl.Txn{openTxn(0, 2), openTxn(), endedTxn(impl.TxCommit, []int64{1, 3}, []int64{3}), endedTxn(impl.TxAbort, nil, nil)} {
		with := func(what string, change func(t *impl.Txn)) {
			bad := good
			change(&bad)
			out = append(out, wrongTxn{what, bad})
		}
		for _, n := range []int64{math.MinInt64, -4, -1, 0, 5, 6, 1<<32 + 1, math.MaxInt64} {
			with("Producer", func(t *impl.Txn) { t.Producer = n })
		}
		for _, n := range []int64{math.MinInt64, -impl.MaxTime, -1, 0, impl.MaxTime + 1, 1<<32 + 1, math.MaxInt64} {
			with("Epoch", func(t *impl.Txn) { t.Epoch = n })
		}
		for _, n := range []int64{math.MinInt64, -3, -1, 0, 4, 5, 1<<32 + 1, 1<<32 + 2, math.MaxInt64} {
			with("State", func(t *impl.Txn) { t.State = n })
		}
		for _, n := range []int64{math.MinInt64, -impl.MaxTime, -1, impl.MaxTime + 1, 1 << 32, math.MaxInt64} {
			with("Until", func(t *impl.Txn) { t.Until = n })
		}
	}
	return out
}

func txnsOfWrongRings() []wrongTxn {
	lists := [][]int64{{-1}, {4}, {-1, 0}, {-1, 0, 1, 2, 3}, {3, 4}, {0, 1, 2, 3, 4}, {0, 4}, {math.MinInt64}, {math.MaxInt64}, {1 << 32}, {1<<32 + 1},
		{1, 0}, {3, 2, 1, 0}, {0, 1, 3, 2}, {2, 0, 1, 3}, {0, 2, 1}, {0, 0}, {3, 3}, {0, 1, 1}, {0, 0, 1}, {1, 2, 2, 3}, {0, 1, 2, 3, 3}, {0, 1, 2, 3, 0}}
	lists = append(lists, make([]int64, 401), make([]int64, 100000))
	var out []wrongTxn
	for _, list := range lists {
		out = append(out,
			wrongTxn{"Rings of TxOpen", openTxn(list...)},
			wrongTxn{"Rings of TxCommit", endedTxn(impl.TxCommit, list, nil)},
			wrongTxn{"Rings of TxAbort", endedTxn(impl.TxAbort, list, nil)},
			wrongTxn{"Rings, and Left alike", endedTxn(impl.TxAbort, list, slices.Clone(list))},
			wrongTxn{"Left of all rings", endedTxn(impl.TxCommit, ringsOf(15), list)},
			wrongTxn{"Left of two rings", endedTxn(impl.TxAbort, []int64{0, 3}, list)})
	}
	return out
}

// txnsOfWrongLeft have a Left that could be one, of other Rings or another
// State.
func txnsOfWrongLeft() []wrongTxn {
	var out []wrongTxn
	for mask := range 16 {
		for left := 1; left < 16; left++ {
			bad := openTxn(ringsOf(mask)...)
			bad.Left = ringsOf(left)
			out = append(out, wrongTxn{"Left beside TxOpen", bad})
			if left&^mask != 0 {
				out = append(out,
					wrongTxn{"Left, not among Rings, TxCommit", endedTxn(impl.TxCommit, ringsOf(mask), ringsOf(left))},
					wrongTxn{"Left, not among Rings, TxAbort", endedTxn(impl.TxAbort, ringsOf(mask), ringsOf(left))})
			}
		}
	}
	return out
}

func txnsNotRight() []wrongTxn {
	return slices.Concat(txnsOfWrongNumbers(), txnsOfWrongRings(), txnsOfWrongLeft())
}

// plainTxn makes an empty list and none the same.
func plainTxn(x impl.Txn) impl.Txn {
	if len(x.Rings) == 0 {
		x.Rings = nil
	}
	if len(x.Left) == 0 {
		x.Left = nil
	}
	return x
}

// sameTxn holds whole Txns against each other, all fields of them.
func sameTxn(t *testing.T, what string, got, want impl.Txn) {
	t.Helper()
	if !reflect.DeepEqual(plainTxn(got), plainTxn(want)) {
		t.Errorf("%s:\n got %s\nwant %s", what, short(got), short(want))
	}
}

// endStates are those that end one, and others.
func endStates() []int64 {
	return []int64{math.MinInt64, -1, 0, impl.TxOpen, impl.TxCommit, impl.TxAbort, 4, 5, 1<<32 + 2, math.MaxInt64}
}

func touchRings() []int64 {
	return []int64{math.MinInt64, -2, -1, 0, 1, 2, 3, 4, 5, 1 << 32, 1<<32 + 1, math.MaxInt64}
}

// txnCalls are calls of all functions that answer a Txn, such as do something
// and such as do not.
func txnCalls(x impl.Txn) []impl.Txn {
	var out []impl.Txn
	for _, state := range endStates() {
		out = append(out, impl.TxnEnd(x, state))
	}
	for _, ring := range touchRings() {
		out = append(out, impl.TxnTouch(x, ring))
	}
	return out
}
