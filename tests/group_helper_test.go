package tests

import (
	"fmt"
	"reflect"
	"strings"
	"testing"

	"loop.example/g00643/impl"
)

// The numbers of the Txns of a heardFabric: one of each State, and one that is
// TxOpen, and has something on Ring 1 alone.
const (
	counting  = 1
	takenBack = 2
	undecided = 3
	elsewhere = 4
)

func saidRec(kind, txn int64) impl.Rec {
	return impl.Rec{Kind: kind, Txn: txn}
}

// recOfLetter is what may stand on a ring, by a letter: what counts, what was
// taken back, what is not decided yet, and what says how one ended: of one that
// ended so, and, since no chapter bars it, of one that is still open.
func recOfLetter(letter rune, data string) impl.Rec {
	switch letter {
	case 'c':
		return dataRec(counting, data)
	case 'b':
		return dataRec(takenBack, data)
	case 'o':
		return dataRec(undecided, data)
	case 'C':
		return saidRec(impl.RcCommit, counting)
	case 'B':
		return saidRec(impl.RcAbort, takenBack)
	}
	return saidRec(impl.RcCommit, undecided)
}

// heardFabric has, on Ring 0 from that place on, a Rec a letter, and these
// Cursors; on Ring 1 something of the last Txn, which is open.
func heardFabric(most, first int64, letters string, cursors ...impl.Cursor) impl.Fabric {
	f := emptyFabric(2, most)
	f.Epochs = []int64{1, 1, 1, 1}
	f.Txns = []impl.Txn{
		{Producer: 1, Epoch: 1, State: impl.TxCommit, Until: 20, Rings: []int64{0}},
		{Producer: 1, Epoch: 1, State: impl.TxAbort, Until: 20, Rings: []int64{0}},
		{Producer: 2, Epoch: 1, State: impl.TxOpen, Until: 20, Rings: []int64{0}},
		{Producer: 3, Epoch: 1, State: impl.TxOpen, Until: 20, Rings: []int64{1}},
	}
	if !strings.ContainsAny(letters, "ox") {
		f.Txns[undecided-1].Rings = nil
	}
	f.Rings[0] = impl.Ring{Cap: most, First: first, Cursors: cursors}
	for i, letter := range letters {
		f.Rings[0].Recs = append(f.Rings[0].Recs, recText(recOfLetter(letter, fmt.Sprint(first+int64(i)))))
	}
	f.Rings[1].Recs = []string{recText(dataRec(elsewhere, "there"))}
	f.Rings[1].Cursors = []impl.Cursor{{Group: 2, At: 0}, {Group: 3, At: 1}}
	return f
}

// lettersOf are all texts of that many letters.
func lettersOf(size int) []string {
	if size == 0 {
		return []string{""}
	}
	var out []string
	for _, rest := range lettersOf(size - 1) {
		for _, letter := range "cboCBx" {
			out = append(out, rest+string(letter))
		}
	}
	return out
}

// heardFabrics stand at the edges that chapter 7 names: what is not decided
// first, in the midst, last and nowhere; Cursors at each kind of place, one,
// several and as many as may be; rings that are empty, and full; places that
// have gone, and such as are nearly at their end.
func heardFabrics() []impl.Fabric {
	var out []impl.Fabric
	for _, letters := range []string{"", "c", "o", "b", "C", "occ", "cocbc", "ccBCo", "bBcCb", "cxcbc", "CBoCB", "ccccccc", "boobcco"} {
		size := int64(len(letters))
		for _, first := range []int64{0, 6, impl.MaxTime - size - 1} {
			end := first + size
			out = append(out,
				heardFabric(8, first, letters),
				heardFabric(8, first, letters, impl.Cursor{Group: 1, At: first}),
				heardFabric(8, first, letters, impl.Cursor{Group: 4, At: first + size/2}, impl.Cursor{Group: 9, At: first}),
				heardFabric(8, first, letters, impl.Cursor{Group: 1, At: end}, impl.Cursor{Group: 2, At: first + size/2}, impl.Cursor{Group: 3, At: first}, impl.Cursor{Group: 9, At: end}))
		}
	}
	full := strings.Repeat("c", 16)
	out = append(out, heardFabric(16, 0, full, impl.Cursor{Group: 5, At: 0}), heardFabric(16, impl.MaxTime-16, full, impl.Cursor{Group: 5, At: impl.MaxTime - 16}, impl.Cursor{Group: 7, At: impl.MaxTime}))
	return append(out, heardFabric(16, 3, "cbCcBcccbcccccc", impl.Cursor{Group: 5, At: 4}, impl.Cursor{Group: 6, At: 3}))
}

// samePoll holds whole answers against each other: Fabric, Texts and Code.
func samePoll(t *testing.T, what string, got, want impl.PollOut) {
	t.Helper()
	got.Fabric, want.Fabric = plainFabric(got.Fabric), plainFabric(want.Fabric)
	got.Texts, want.Texts = append([]string(nil), got.Texts...), append([]string(nil), want.Texts...)
	if !reflect.DeepEqual(got, want) {
		t.Fatalf("%s:\n got %s\nwant %s", what, showPoll(got), showPoll(want))
	}
}

func showPoll(x impl.PollOut) string {
	return fmt.Sprintf("code %d, texts %q, %q", x.Code, x.Texts, fmt.Sprintf("%+v", x.Fabric))
}

func pollRefused(t *testing.T, what string, got impl.PollOut, code int64) {
	t.Helper()
	samePoll(t, what, got, impl.PollOut{Code: code})
}
