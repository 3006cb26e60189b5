package tests

import (
	"math"
	"strings"
	"testing"

	"loop.example/g00643/impl"
)

type wrongRing struct {
	what string
	ring impl.Ring
}

func wrongCaps() []int64 {
	return []int64{math.MinInt64, -16, -8, -4, -1, 0, 1, 2, 3, 5, 6, 7, 9, 10, 15, 17, 32, 64, 1<<32 + 4, math.MaxInt64}
}

func ringsOfWrongSizes() []wrongRing {
	out := []wrongRing{{"nothing at all", impl.Ring{}}}
	for _, most := range wrongCaps() {
		out = append(out, wrongRing{"Cap", impl.Ring{Cap: most}}, wrongRing{"Cap, with Recs", ringOf(most, 0, 2)})
	}
	for _, first := range []int64{math.MinInt64, -impl.MaxTime, -2, -1, impl.MaxTime + 1, math.MaxInt64 - 2, math.MaxInt64} {
		out = append(out, wrongRing{"First", impl.Ring{Cap: 4, First: first}})
		out = append(out, wrongRing{"First, a Cursor there", impl.Ring{Cap: 8, First: first, Cursors: []impl.Cursor{{Group: 1, At: first}}}})
		full := ringOf(4, 0, 4)
		full.First = first
		out = append(out, wrongRing{"First, with Recs", full})
	}
	for _, most := range []int64{4, 8, 16} {
		for _, more := range []int{1, 2, 4, 384, 397, 1000} {
			out = append(out, wrongRing{"more Recs than Cap", ringOf(most, 0, int(most)+more)})
		}
		for count := range int(most) {
			out = append(out, wrongRing{"RingEnd above MaxTime", ringOf(most, impl.MaxTime-int64(count), count+1)})
		}
	}
	return out
}

// wrongTexts are not the bytes of a right Rec, each in another way.
func wrongTexts() []string {
	good := textAt(0)
	out := []string{"", "x", "abc", "abcd", "\x00\x00\x00\x00", good[:len(good)-1], good[1:], good + "\x00", "\x00" + good, good + good,
		turned(good, 0, 1), turned(good, len(good)-1, 128), wantSeal(""), wantSeal("hi"), wantSeal(bodyOf(recAt(0)) + "\x00"),
		wantSeal("\x82\x00\x06\x04hi"), wantSeal("\x02\x86\x00\x04hi"), wantSeal(good), sampleText(impl.MaxBytes), sampleText(impl.MaxBytes + 1),
		strings.Repeat("a", 100000)}
	for _, r := range []impl.Rec{{}, {Kind: 4, Txn: 1}, {Kind: 1}, {Kind: 1, Txn: impl.MaxTime + 1}, {Kind: 2, Txn: 1, Data: "a"}, {Kind: 1, Txn: 1, Data: strings.Repeat("a", 17)}} {
		out = append(out, wantSeal(bodyOf(r)))
	}
	return out
}

func ringsOfWrongRecs() []wrongRing {
	var out []wrongRing
	for _, text := range wrongTexts() {
		for place := range 4 {
			r := ringOf(4, 5, 4, impl.Cursor{Group: 2, At: 5})
			r.Recs[place] = text
			out = append(out, wrongRing{"a text that is no Rec: " + short(text), r})
		}
	}
	return out
}

func ringsOfWrongCursors() []wrongRing {
	with := func(what string, cursors ...impl.Cursor) wrongRing {
		return wrongRing{what, ringOf(8, 3, 4, cursors...)}
	}
	out := []wrongRing{
		with("one Cursor too many", impl.Cursor{Group: 1, At: 3}, impl.Cursor{Group: 2, At: 3}, impl.Cursor{Group: 3, At: 3}, impl.Cursor{Group: 4, At: 3}, impl.Cursor{Group: 5, At: 3}),
		with("not rising", impl.Cursor{Group: 2, At: 3}, impl.Cursor{Group: 1, At: 3}),
		with("not rising, the last one", impl.Cursor{Group: 1, At: 3}, impl.Cursor{Group: 5, At: 4}, impl.Cursor{Group: 8, At: 4}, impl.Cursor{Group: 7, At: 4}),
		with("not rising, the first one", impl.Cursor{Group: 9, At: 3}, impl.Cursor{Group: 2, At: 4}, impl.Cursor{Group: 3, At: 4}),
		with("two of one Group", impl.Cursor{Group: 4, At: 3}, impl.Cursor{Group: 4, At: 5}),
		with("two of one Group, alike", impl.Cursor{Group: 1, At: 4}, impl.Cursor{Group: 4, At: 3}, impl.Cursor{Group: 4, At: 3}),
		with("At below First", impl.Cursor{Group: 1, At: 3}, impl.Cursor{Group: 2, At: 2}),
		with("At below First, alone", impl.Cursor{Group: 1, At: 2}),
		with("At below 0", impl.Cursor{Group: 1, At: 3}, impl.Cursor{Group: 2, At: -1}),
		with("At above RingEnd", impl.Cursor{Group: 1, At: 3}, impl.Cursor{Group: 2, At: 8}),
		with("At above RingEnd, the first one", impl.Cursor{Group: 1, At: 8}, impl.Cursor{Group: 2, At: 3}),
		with("At above RingEnd, alone", impl.Cursor{Group: 1, At: 8}),
		with("First is not the least At", impl.Cursor{Group: 1, At: 4}),
		with("First is not the least At, at RingEnd", impl.Cursor{Group: 9, At: 7}),
		with("First is not the least At, of many", impl.Cursor{Group: 1, At: 6}, impl.Cursor{Group: 2, At: 4}, impl.Cursor{Group: 3, At: 5}, impl.Cursor{Group: 9, At: 7}),
		{"At below First, empty", ringOf(4, 3, 0, impl.Cursor{Group: 1, At: 2})},
		{"At above RingEnd, empty", ringOf(4, 3, 0, impl.Cursor{Group: 1, At: 3}, impl.Cursor{Group: 2, At: 4})},
		{"At above RingEnd, full", ringOf(4, 0, 4, impl.Cursor{Group: 1, At: 0}, impl.Cursor{Group: 2, At: 5})},
	}
	for _, group := range []int64{math.MinInt64, -1, 0, 10, 11, 1<<32 + 1, math.MaxInt64} {
		out = append(out, with("Group", impl.Cursor{Group: group, At: 3}))
	}
	out = append(out, with("Group 0, the first one", impl.Cursor{Group: 0, At: 3}, impl.Cursor{Group: 1, At: 3}))
	out = append(out, with("Group 10, the last one", impl.Cursor{Group: 9, At: 3}, impl.Cursor{Group: 10, At: 3}))
	for _, at := range []int64{math.MinInt64, math.MaxInt64} {
		out = append(out, with("At", impl.Cursor{Group: 1, At: 3}, impl.Cursor{Group: 2, At: at}))
	}
	return out
}

func wrongRings() []wrongRing {
	out := append(ringsOfWrongSizes(), ringsOfWrongRecs()...)
	out = append(out, ringsOfWrongCursors()...)
	many := ringOf(16, 0, 0)
	many.Cursors = make([]impl.Cursor, 100000)
	return append(out, wrongRing{"very many Cursors", many})
}

func TestRingConstants(t *testing.T) {
	same(t, "constant of chapter 4", impl.MaxCursors, 4)
}

func TestRingRight(t *testing.T) {
	for _, r := range rightRings() {
		if !impl.RingRight(r) {
			t.Errorf("right: %s", showRing(impl.RingOut{Ring: r}))
		}
	}
	for _, w := range wrongRings() {
		if impl.RingRight(w.ring) {
			t.Errorf("not right: %s: %s", w.what, short(w.ring))
		}
	}
}

func TestRingRightFirst(t *testing.T) {
	for _, first := range []int64{0, 1, 500000, impl.MaxTime - 1, impl.MaxTime} {
		same(t, "First without Cursors", impl.RingRight(impl.Ring{Cap: 4, First: first}), true)
		same(t, "First with a Cursor", impl.RingRight(impl.Ring{Cap: 4, First: first, Cursors: []impl.Cursor{{Group: 1, At: first}}}), true)
		same(t, "First, lists that are empty", impl.RingRight(impl.Ring{Cap: 4, First: first, Recs: []string{}, Cursors: []impl.Cursor{}}), true)
	}
}

func TestRingRightRecs(t *testing.T) {
	for _, rec := range rightRecs() {
		same(t, "a right Rec", impl.RingRight(impl.Ring{Cap: 4, Recs: []string{textAt(0), wantSeal(bodyOf(rec))}}), true)
	}
	same(t, "the same Rec often", impl.RingRight(impl.Ring{Cap: 4, Recs: []string{textAt(0), textAt(0), textAt(0), textAt(0)}}), true)
}

func TestRingRightGroups(t *testing.T) {
	for group := int64(1); group <= 9; group++ {
		same(t, "one Group", impl.RingRight(ringOf(4, 2, 1, impl.Cursor{Group: group, At: 2})), true)
		for next := int64(1); next <= 9; next++ {
			r := ringOf(4, 2, 1, impl.Cursor{Group: group, At: 3}, impl.Cursor{Group: next, At: 2})
			same(t, "two Groups", impl.RingRight(r), next > group)
		}
	}
}

// A Ring that is not right is refused ahead of all other faults.
func TestWrongRingIsRefused(t *testing.T) {
	for _, w := range wrongRings() {
		same(t, "RingEnd: "+w.what, impl.RingEnd(w.ring), 0)
		same(t, "RingRoom: "+w.what, impl.RingRoom(w.ring), 0)
		ringRefused(t, "RingPut: "+w.what, impl.RingPut(w.ring, recAt(0)), impl.ErrForm)
		ringRefused(t, "RingPut, a wrong Rec: "+w.what, impl.RingPut(w.ring, impl.Rec{}), impl.ErrForm)
		for _, n := range []int64{math.MinInt64, -1, 0, 1, 2, 3, 4, 9, 10, impl.MaxTime, math.MaxInt64} {
			ringRefused(t, "RingAt: "+w.what, impl.RingAt(w.ring, n), impl.ErrForm)
			ringRefused(t, "Follow: "+w.what, impl.Follow(w.ring, n), impl.ErrForm)
			ringRefused(t, "Leave: "+w.what, impl.Leave(w.ring, n), impl.ErrForm)
			ringRefused(t, "Move: "+w.what, impl.Move(w.ring, n, 3), impl.ErrForm)
			ringRefused(t, "Move there: "+w.what, impl.Move(w.ring, 1, n), impl.ErrForm)
		}
	}
}
