package tests

import (
	"math"
	"slices"
	"testing"

	"loop.example/g00643/impl"
)

func cursorOf(r impl.Ring, group int64) (impl.Cursor, bool) {
	for _, c := range r.Cursors {
		if c.Group == group {
			return c, true
		}
	}
	return impl.Cursor{}, false
}

// others are the Cursors of all other groups.
func others(r impl.Ring, group int64) []impl.Cursor {
	return slices.DeleteFunc(slices.Clone(r.Cursors), func(c impl.Cursor) bool { return c.Group == group })
}

// settled is the Ring of these Cursors, in order, without what all of them have
// passed.
func settled(r impl.Ring, cursors []impl.Cursor) impl.RingOut {
	first := r.First
	if len(cursors) > 0 {
		first = slices.MinFunc(cursors, func(a, b impl.Cursor) int { return int(a.At - b.At) }).At
	}
	slices.SortFunc(cursors, func(a, b impl.Cursor) int { return int(a.Group - b.Group) })
	return impl.RingOut{Ring: ringOf(r.Cap, first, len(r.Recs)-int(first-r.First), cursors...)}
}

func wrongGroups() []int64 {
	return []int64{math.MinInt64, -9, -1, 0, 10, 11, 1<<32 + 1, math.MaxInt64}
}

func TestFollow(t *testing.T) {
	for _, r := range rightRings() {
		for group := int64(1); group <= 9; group++ {
			got := impl.Follow(r, group)
			if _, there := cursorOf(r, group); there {
				ringRefused(t, "Follow of one that has a Cursor", got, impl.ErrThere)
			} else if len(r.Cursors) == impl.MaxCursors {
				ringRefused(t, "Follow where there are MaxCursors", got, impl.ErrFull)
			} else {
				sameRing(t, "Follow", got, settled(r, append(others(r, group), impl.Cursor{Group: group, At: r.First})))
			}
		}
		for _, group := range wrongGroups() {
			ringRefused(t, "Follow of no group", impl.Follow(r, group), impl.ErrForm)
		}
	}
}

func TestFollowTillFull(t *testing.T) {
	r := ringOf(8, 5, 3)
	for i, group := range []int64{9, 1, 5, 2} {
		r = impl.Follow(r, group).Ring
		same(t, "Cursors", len(r.Cursors), i+1)
	}
	want := ringOf(8, 5, 3, impl.Cursor{Group: 1, At: 5}, impl.Cursor{Group: 2, At: 5}, impl.Cursor{Group: 5, At: 5}, impl.Cursor{Group: 9, At: 5})
	sameRing(t, "four follow", impl.RingOut{Ring: r}, impl.RingOut{Ring: want})
	for _, group := range []int64{1, 2, 5, 9} {
		ringRefused(t, "there, and full", impl.Follow(r, group), impl.ErrThere)
	}
	for _, group := range []int64{3, 4, 6, 7, 8} {
		ringRefused(t, "full", impl.Follow(r, group), impl.ErrFull)
	}
	for _, group := range []int64{0, 10} {
		ringRefused(t, "no group, and full", impl.Follow(r, group), impl.ErrForm)
	}
}

// Promise 4: nothing goes that somebody has not passed yet.
func TestMove(t *testing.T) {
	for _, r := range rightRings() {
		end := r.First + int64(len(r.Recs))
		for group := int64(1); group <= 9; group++ {
			own, there := cursorOf(r, group)
			for _, at := range append(placesOf(r), math.MinInt64, -1, impl.MaxTime, impl.MaxTime+1, math.MaxInt64) {
				got := impl.Move(r, group, at)
				if !there {
					ringRefused(t, "Move of one that has none", got, impl.ErrNone)
				} else if at < own.At || at > end {
					ringRefused(t, "Move back, or too far", got, impl.ErrRange)
				} else {
					sameRing(t, "Move", got, settled(r, append(others(r, group), impl.Cursor{Group: group, At: at})))
				}
			}
		}
		for _, group := range wrongGroups() {
			ringRefused(t, "Move of no group", impl.Move(r, group, r.First), impl.ErrNone)
			ringRefused(t, "Move of no group, too far", impl.Move(r, group, math.MaxInt64), impl.ErrNone)
		}
	}
}

// placesOf goes from below First to above RingEnd.
func placesOf(r impl.Ring) []int64 {
	var out []int64
	for at := r.First - 2; at <= r.First+int64(len(r.Recs))+2; at++ {
		out = append(out, at)
	}
	return out
}

func TestMoveByHand(t *testing.T) {
	r := ringOf(4, 10, 4, impl.Cursor{Group: 2, At: 10}, impl.Cursor{Group: 5, At: 12})
	sameRing(t, "the least, where it is", impl.Move(r, 2, 10), impl.RingOut{Ring: r})
	sameRing(t, "the least, still the least", impl.Move(r, 2, 11),
		impl.RingOut{Ring: ringOf(4, 11, 3, impl.Cursor{Group: 2, At: 11}, impl.Cursor{Group: 5, At: 12})})
	sameRing(t, "the least, past the other", impl.Move(r, 2, 14),
		impl.RingOut{Ring: ringOf(4, 12, 2, impl.Cursor{Group: 2, At: 14}, impl.Cursor{Group: 5, At: 12})})
	sameRing(t, "not the least", impl.Move(r, 5, 14),
		impl.RingOut{Ring: ringOf(4, 10, 4, impl.Cursor{Group: 2, At: 10}, impl.Cursor{Group: 5, At: 14})})
	both := impl.Move(impl.Move(r, 5, 14).Ring, 2, 14)
	sameRing(t, "both at RingEnd", both, impl.RingOut{Ring: ringOf(4, 14, 0, impl.Cursor{Group: 2, At: 14}, impl.Cursor{Group: 5, At: 14})})
	ringRefused(t, "below its At", impl.Move(r, 5, 11), impl.ErrRange)
	ringRefused(t, "above RingEnd", impl.Move(r, 5, 15), impl.ErrRange)
	ringRefused(t, "none", impl.Move(r, 3, 12), impl.ErrNone)
}

// Promise 4: nothing goes that somebody has not passed yet.
func TestLeave(t *testing.T) {
	for _, r := range rightRings() {
		for group := int64(1); group <= 9; group++ {
			got := impl.Leave(r, group)
			if _, there := cursorOf(r, group); there {
				sameRing(t, "Leave", got, settled(r, others(r, group)))
			} else {
				ringRefused(t, "Leave of one that has none", got, impl.ErrNone)
			}
		}
		for _, group := range wrongGroups() {
			ringRefused(t, "Leave of no group", impl.Leave(r, group), impl.ErrNone)
		}
	}
}

func TestLeaveByHand(t *testing.T) {
	r := ringOf(8, 10, 4, impl.Cursor{Group: 2, At: 13}, impl.Cursor{Group: 5, At: 10}, impl.Cursor{Group: 6, At: 12})
	least := impl.Leave(r, 5)
	sameRing(t, "the least", least, impl.RingOut{Ring: ringOf(8, 12, 2, impl.Cursor{Group: 2, At: 13}, impl.Cursor{Group: 6, At: 12})})
	sameRing(t, "not the least", impl.Leave(r, 2), impl.RingOut{Ring: ringOf(8, 10, 4, impl.Cursor{Group: 5, At: 10}, impl.Cursor{Group: 6, At: 12})})
	one := impl.Leave(least.Ring, 6)
	sameRing(t, "the least again", one, impl.RingOut{Ring: ringOf(8, 13, 1, impl.Cursor{Group: 2, At: 13})})
	sameRing(t, "the last one", impl.Leave(one.Ring, 2), impl.RingOut{Ring: ringOf(8, 13, 1)})
	ringRefused(t, "gone already", impl.Leave(least.Ring, 5), impl.ErrNone)
	ringRefused(t, "nobody there", impl.Leave(ringOf(8, 13, 1), 2), impl.ErrNone)
}

// A ring that was full has room again when all have passed something.
func TestRoomComesBack(t *testing.T) {
	r := ringOf(4, 0, 4, impl.Cursor{Group: 1, At: 0}, impl.Cursor{Group: 2, At: 0})
	r = impl.Move(r, 1, 4).Ring
	ringRefused(t, "one has passed nothing", impl.RingPut(r, recAt(4)), impl.ErrFull)
	r = impl.Move(r, 2, 1).Ring
	same(t, "room for one", impl.RingRoom(r), 1)
	r = impl.RingPut(r, recAt(4)).Ring
	want := ringOf(4, 1, 4, impl.Cursor{Group: 1, At: 4}, impl.Cursor{Group: 2, At: 1})
	sameRing(t, "put behind", impl.RingOut{Ring: r}, impl.RingOut{Ring: want})
	ringRefused(t, "full again", impl.RingPut(r, recAt(5)), impl.ErrFull)
}

// Promise 4, over long walks: a ring stays right, has no more than it may, has
// what was put at the end, and loses nothing that a Cursor has not passed.
func TestRingWalk(t *testing.T) {
	for _, most := range []int64{4, 8, 16} {
		for _, first := range []int64{0, 100, impl.MaxTime - 60} {
			walkRing(t, impl.Ring{Cap: most, First: first}, 3000)
		}
	}
}

func walkRing(t *testing.T, r impl.Ring, steps int) {
	t.Helper()
	state := uint32(r.Cap)
	next := func(below int64) int64 {
		state = state*1664525 + 1013904223
		return int64(state>>8) % below
	}
	done := 0
	for range steps {
		group := next(9) + 1
		var got impl.RingOut
		switch next(6) {
		case 0:
			got = impl.Follow(r, group)
		case 1:
			if next(4) == 0 {
				got = impl.Leave(r, group)
			} else {
				got = impl.RingOut{Ring: r}
			}
		case 2, 3:
			got = impl.Move(r, group, r.First+next(r.Cap+1))
		default:
			got = impl.RingPut(r, recAt(impl.RingEnd(r)))
		}
		if got.Code != impl.OK {
			ringRefused(t, "a step that is refused", got, got.Code)
			continue
		}
		done++
		holdsStep(t, r, got.Ring)
		r = got.Ring
	}
	if done < steps/10 {
		t.Errorf("only %d of %d steps were done", done, steps)
	}
}

func holdsStep(t *testing.T, before, after impl.Ring) {
	t.Helper()
	same(t, "stays right", impl.RingRight(after), true)
	same(t, "Cap stays", after.Cap, before.Cap)
	if int64(len(after.Recs)) > after.Cap || len(after.Cursors) > impl.MaxCursors || impl.RingEnd(after) > impl.MaxTime {
		t.Errorf("more than it may: %s", showRing(impl.RingOut{Ring: after}))
	}
	end := impl.RingEnd(after)
	same(t, "each is at its place", slices.Equal(after.Recs, ringOf(after.Cap, after.First, len(after.Recs)).Recs), true)
	if end != impl.RingEnd(before) && end != impl.RingEnd(before)+1 {
		t.Errorf("RingEnd from %d to %d", impl.RingEnd(before), end)
	}
	if after.First < before.First {
		t.Errorf("First from %d to %d", before.First, after.First)
	}
	for _, c := range after.Cursors {
		if c.At < after.First {
			t.Errorf("gone, and not passed: %s", showRing(impl.RingOut{Ring: after}))
		}
	}
	if len(after.Cursors) == 0 {
		same(t, "nothing goes where nobody follows", after.First, before.First)
	}
}
