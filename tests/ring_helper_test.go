package tests

import (
	"fmt"
	"reflect"
	"testing"
	"unsafe"

	"loop.example/g00643/impl"
)

// recAt is the Rec that rings of these tests have at that place: each place has
// another one, and there are all kinds.
func recAt(place int64) impl.Rec {
	txn := place%12 + 1
	switch place % 5 {
	case 3:
		return impl.Rec{Kind: impl.RcCommit, Txn: txn}
	case 4:
		return impl.Rec{Kind: impl.RcAbort, Txn: txn}
	}
	return impl.Rec{Kind: impl.RcData, Txn: txn, Data: fmt.Sprint("at ", place)}
}

// textAt is written here, not by RecBytes.
func textAt(place int64) string {
	return wantSeal(bodyOf(recAt(place)))
}

// ringOf has the Recs of the places from first on.
func ringOf(most, first int64, count int, cursors ...impl.Cursor) impl.Ring {
	r := impl.Ring{Cap: most, First: first, Cursors: cursors}
	for i := range count {
		r.Recs = append(r.Recs, textAt(first+int64(i)))
	}
	return r
}

// plain makes an empty list and none the same.
func plain(r impl.Ring) impl.Ring {
	if len(r.Recs) == 0 {
		r.Recs = nil
	}
	if len(r.Cursors) == 0 {
		r.Cursors = nil
	}
	return r
}

func showRing(x impl.RingOut) string {
	return fmt.Sprintf("code %d, rec %q, cap %d, first %d, recs %q, cursors %v", x.Code, fmt.Sprint(x.Rec), x.Ring.Cap, x.Ring.First, x.Ring.Recs, x.Ring.Cursors)
}

// sameRing holds whole answers against each other: Ring, Rec and Code.
func sameRing(t *testing.T, what string, got, want impl.RingOut) {
	t.Helper()
	got.Ring, want.Ring = plain(got.Ring), plain(want.Ring)
	if !reflect.DeepEqual(got, want) {
		t.Errorf("%s:\n got %s\nwant %s", what, showRing(got), showRing(want))
	}
}

func ringRefused(t *testing.T, what string, got impl.RingOut, code int64) {
	t.Helper()
	sameRing(t, what, got, impl.RingOut{Code: code})
}

// rightRings are of each Cap, at the edges of First and RingEnd, empty, full
// and between, with no Cursor, one and many.
func rightRings() []impl.Ring {
	var out []impl.Ring
	for _, most := range []int64{4, 8, 16} {
		for _, count := range []int{0, 1, 2, 3, 4, int(most) - 1, int(most)} {
			for _, first := range []int64{0, 1, 7, impl.MaxTime - int64(count) - 1, impl.MaxTime - int64(count)} {
				end := first + int64(count)
				out = append(out,
					ringOf(most, first, count),
					ringOf(most, first, count, impl.Cursor{Group: 1, At: first}),
					ringOf(most, first, count, impl.Cursor{Group: 9, At: first}),
					ringOf(most, first, count, impl.Cursor{Group: 4, At: first}, impl.Cursor{Group: 5, At: end}),
					ringOf(most, first, count, impl.Cursor{Group: 2, At: end}, impl.Cursor{Group: 3, At: first}, impl.Cursor{Group: 7, At: first + int64(count)/2}),
					ringOf(most, first, count, impl.Cursor{Group: 1, At: end}, impl.Cursor{Group: 2, At: end}, impl.Cursor{Group: 6, At: first + int64(count)/2}, impl.Cursor{Group: 9, At: first}))
			}
		}
	}
	return out
}

// ringCalls are calls of all functions that answer a RingOut of a Ring, such as
// go well and such as do not.
func ringCalls(r impl.Ring) []impl.RingOut {
	out := []impl.RingOut{impl.RingPut(r, recAt(0)), impl.RingPut(r, recAt(3)), impl.RingPut(r, impl.Rec{})}
	for group := int64(-1); group <= 11; group++ {
		out = append(out, impl.Follow(r, group), impl.Leave(r, group))
		for at := r.First - 1; at <= r.First+int64(len(r.Recs))+1; at++ {
			out = append(out, impl.Move(r, group, at))
		}
	}
	for at := r.First - 1; at <= r.First+int64(len(r.Recs))+1; at++ {
		out = append(out, impl.RingAt(r, at))
	}
	return out
}

// listsOverlap looks at all the memory of the lists, also behind their ends.
func listsOverlap[T any](a, b []T) bool {
	if cap(a) == 0 || cap(b) == 0 {
		return false
	}
	size := unsafe.Sizeof(a[:1][0])
	first := uintptr(unsafe.Pointer(unsafe.SliceData(a)))
	other := uintptr(unsafe.Pointer(unsafe.SliceData(b)))
	return first < other+uintptr(cap(b))*size && other < first+uintptr(cap(a))*size
}

// ringsShare: do two Rings have any memory in common, of a list or of a text?
func ringsShare(a, b impl.Ring) bool {
	if listsOverlap(a.Recs, b.Recs) || listsOverlap(a.Cursors, b.Cursors) {
		return true
	}
	for _, one := range a.Recs {
		for _, other := range b.Recs {
			if sharesMemory(one, other) {
				return true
			}
		}
	}
	return false
}
