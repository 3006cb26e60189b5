package tests

import (
	"slices"
	"testing"

	"loop.example/g00643/impl"
)

func TestTxnConstants(t *testing.T) {
	same(t, "constants of chapter 5", [4]int64{impl.MaxTxns, impl.TxOpen, impl.TxCommit, impl.TxAbort}, [4]int64{12, 1, 2, 3})
}

func TestTxnRight(t *testing.T) {
	for _, x := range slices.Concat(rightOpenTxns(), rightEndedTxns()) {
		if !impl.TxnRight(x) {
			t.Errorf("right: %s", short(x))
		}
	}
	for _, w := range txnsNotRight() {
		if impl.TxnRight(w.txn) {
			t.Errorf("not right: %s: %s", w.what, short(w.txn))
		}
	}
	empty := impl.Txn{Producer: 1, Epoch: 1, State: impl.TxOpen, Rings: []int64{}, Left: []int64{}}
	same(t, "lists that are empty", impl.TxnRight(empty), true)
}

// maskOf is -1 of a list that is not rising, or has another number than 0 to 3.
func maskOf(rings []int64) int {
	for mask := range 16 {
		if slices.Equal(rings, ringsOf(mask)) {
			return mask
		}
	}
	return -1
}

// shortLists are all of at most so many numbers from -1 to 4.
func shortLists(most int) [][]int64 {
	out := [][]int64{nil}
	for begin := 0; most > 0; most-- {
		end := len(out)
		for _, list := range out[begin:end] {
			for ring := int64(-1); ring <= 4; ring++ {
				out = append(out, append(slices.Clone(list), ring))
			}
		}
		begin = end
	}
	return out
}

// All short Rings beside all short Left, of each State.
func TestTxnRightLists(t *testing.T) {
	lists := shortLists(3)
	masks := make([]int, len(lists))
	for i, list := range lists {
		masks[i] = maskOf(list)
	}
	for r, rings := range lists {
		for l, left := range lists {
			bothRight := masks[r] >= 0 && masks[l] >= 0
			among := bothRight && masks[l]&^masks[r] == 0
			for state := int64(0); state <= 4; state++ {
				want := among && (state == impl.TxCommit || state == impl.TxAbort) || bothRight && state == impl.TxOpen && len(left) == 0
				if got := impl.TxnRight(endedTxn(state, rings, left)); got != want {
					t.Fatalf("State %d, Rings %v, Left %v: got %v, want %v", state, rings, left, got, want)
				}
			}
		}
	}
}

// Promise 5: it is said on each ring on which something of it lies.
func TestTxnEnd(t *testing.T) {
	for _, x := range rightOpenTxns() {
		for _, state := range endStates() {
			want := x
			if state == impl.TxCommit || state == impl.TxAbort {
				want.State, want.Left = state, slices.Clone(x.Rings)
			}
			got := impl.TxnEnd(x, state)
			sameTxn(t, "TxnEnd", got, want)
			same(t, "stays right", impl.TxnRight(got), true)
		}
	}
}

func TestTxnEndByHand(t *testing.T) {
	x := impl.Txn{Producer: 4, Epoch: impl.MaxTime, State: impl.TxOpen, Until: impl.MaxTime, Rings: []int64{0, 1, 3}}
	want := impl.Txn{Producer: 4, Epoch: impl.MaxTime, State: impl.TxCommit, Until: impl.MaxTime, Rings: []int64{0, 1, 3}, Left: []int64{0, 1, 3}}
	sameTxn(t, "committed", impl.TxnEnd(x, impl.TxCommit), want)
	want.State = impl.TxAbort
	sameTxn(t, "aborted", impl.TxnEnd(x, impl.TxAbort), want)
	sameTxn(t, "nothing of it anywhere", impl.TxnEnd(openTxn(), impl.TxCommit), endedTxn(impl.TxCommit, nil, nil))
}

// Promise 5: it ends once, whatever is Left of it.
func TestTxnEndsOnce(t *testing.T) {
	for _, x := range rightEndedTxns() {
		for _, state := range endStates() {
			sameTxn(t, "TxnEnd of one that has ended", impl.TxnEnd(x, state), x)
		}
	}
	for _, x := range rightOpenTxns() {
		for _, first := range []int64{impl.TxCommit, impl.TxAbort} {
			once := impl.TxnEnd(x, first)
			for _, then := range endStates() {
				sameTxn(t, "TxnEnd twice", impl.TxnEnd(once, then), once)
			}
		}
	}
}

func TestTxnTouch(t *testing.T) {
	for _, x := range rightOpenTxns() {
		for _, ring := range touchRings() {
			want := x
			if ring >= 0 && ring <= 3 {
				want.Rings = ringsOf(maskOf(x.Rings) | 1<<ring)
			}
			got := impl.TxnTouch(x, ring)
			sameTxn(t, "TxnTouch", got, want)
			same(t, "stays right", impl.TxnRight(got), true)
		}
	}
}

func TestTxnTouchByHand(t *testing.T) {
	sameTxn(t, "the first one", impl.TxnTouch(openTxn(), 2), openTxn(2))
	sameTxn(t, "ahead of them", impl.TxnTouch(openTxn(1, 3), 0), openTxn(0, 1, 3))
	sameTxn(t, "between them", impl.TxnTouch(openTxn(1, 3), 2), openTxn(1, 2, 3))
	sameTxn(t, "behind them", impl.TxnTouch(openTxn(0, 1), 3), openTxn(0, 1, 3))
	sameTxn(t, "there, the first one", impl.TxnTouch(openTxn(0, 1, 3), 0), openTxn(0, 1, 3))
	sameTxn(t, "there, the last one", impl.TxnTouch(openTxn(0, 1, 3), 3), openTxn(0, 1, 3))
	for _, ring := range []int64{-1, 4} {
		sameTxn(t, "no such ring", impl.TxnTouch(openTxn(0, 3), ring), openTxn(0, 3))
		sameTxn(t, "no such ring, nothing yet", impl.TxnTouch(openTxn(), ring), openTxn())
	}
}

// Promise 5: nothing comes to lie on a ring of one that has ended.
func TestTxnTouchOfEnded(t *testing.T) {
	for _, x := range rightEndedTxns() {
		for _, ring := range touchRings() {
			sameTxn(t, "TxnTouch of one that has ended", impl.TxnTouch(x, ring), x)
		}
	}
}

// Promise 5: in whatever order rings are touched, it is said on just these.
func TestTxnEndsOnWhatWasTouched(t *testing.T) {
	for _, order := range shortLists(5) {
		x := openTxn()
		mask := 0
		for _, ring := range order {
			x = impl.TxnTouch(x, ring)
			if ring >= 0 && ring <= 3 {
				mask |= 1 << ring
			}
		}
		sameTxn(t, "touched", x, openTxn(ringsOf(mask)...))
		sameTxn(t, "committed", impl.TxnEnd(x, impl.TxCommit), endedTxn(impl.TxCommit, ringsOf(mask), ringsOf(mask)))
		sameTxn(t, "aborted", impl.TxnEnd(x, impl.TxAbort), endedTxn(impl.TxAbort, ringsOf(mask), ringsOf(mask)))
	}
}

// Chapter 5: one that is not right comes back as it is.
func TestWrongTxnStays(t *testing.T) {
	for _, w := range txnsNotRight() {
		for _, got := range txnCalls(w.txn) {
			sameTxn(t, w.what, got, w.txn)
		}
	}
}

// Chapter 1: an answer shares memory neither with what was handed in nor
// between its own lists, also where it is t as it is, and where the two lists
// that were handed in are one.
func TestTxnAnswersAreNewMemory(t *testing.T) {
	given := slices.Concat(rightOpenTxns(), rightEndedTxns())
	for _, w := range txnsNotRight() {
		given = append(given, w.txn)
	}
	for mask := range 16 {
		one := append(make([]int64, 0, 8), ringsOf(mask)...)
		given = append(given, endedTxn(impl.TxCommit, one, one), endedTxn(impl.TxAbort, one, one[:len(one)/2]), endedTxn(impl.TxOpen, one, one[:0]), endedTxn(0, one, one))
	}
	for _, x := range given {
		for _, got := range txnCalls(x) {
			for _, list := range [][]int64{x.Rings, x.Left} {
				if listsOverlap(got.Rings, list) || listsOverlap(got.Left, list) {
					t.Fatalf("an answer shares memory with %s: %s", short(x), short(got))
				}
			}
			if listsOverlap(got.Rings, got.Left) {
				t.Fatalf("the lists of an answer share memory: of %s: %s", short(x), short(got))
			}
		}
	}
}

// Chapter 1: what is handed in is not changed, nor what lies ahead of and
// behind its lists.
func TestTxnIsNotChanged(t *testing.T) {
	given := slices.Concat(rightOpenTxns(), rightEndedTxns())
	for _, w := range txnsNotRight() {
		given = append(given, w.txn)
	}
	for _, x := range given {
		rings := slices.Concat([]int64{-7}, x.Rings, []int64{-8, -9, -10, -11})
		left := slices.Concat([]int64{-17}, x.Left, []int64{-18, -19, -20, -21})
		wantRings, wantLeft := slices.Clone(rings), slices.Clone(left)
		x.Rings, x.Left = rings[1:len(x.Rings)+1], left[1:len(x.Left)+1]
		txnCalls(x)
		impl.TxnRight(x)
		same(t, "Rings", slices.Equal(rings, wantRings), true)
		same(t, "Left", slices.Equal(left, wantLeft), true)
	}
}
