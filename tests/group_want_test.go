package tests

import (
	"cmp"
	"slices"

	"loop.example/g00643/impl"
)

// What chapter 7 asks, written a second time, from the document's words.

func isThere(f impl.Fabric, ring int64) bool {
	return 0 <= ring && ring < int64(len(f.Rings))
}

func endOf(r impl.Ring) int64 {
	return r.First + int64(len(r.Recs))
}

// stood is a Rec at its place, and how its Txn stands.
type stood struct {
	at    int64
	rec   impl.Rec
	state int64
}

func allStood(f impl.Fabric, ring int64) []stood {
	var out []stood
	for i, text := range f.Rings[ring].Recs {
		rec := impl.RecRead(text).Rec
		out = append(out, stood{f.Rings[ring].First + int64(i), rec, f.Txns[rec.Txn-1].State})
	}
	return out
}

func isUndecided(s stood) bool {
	return s.rec.Kind == impl.RcData && s.state == impl.TxOpen
}

func isCounting(s stood) bool {
	return s.rec.Kind == impl.RcData && s.state == impl.TxCommit
}

func isData(s stood) bool {
	return s.rec.Kind == impl.RcData
}

func wantStable(f impl.Fabric, right bool, ring int64) int64 {
	if !right || !isThere(f, ring) {
		return 0
	}
	all := allStood(f, ring)
	if i := slices.IndexFunc(all, isUndecided); i >= 0 {
		return all[i].at
	}
	return endOf(f.Rings[ring])
}

func wantCounts(f impl.Fabric, right bool, ring, at int64) bool {
	if !right || !isThere(f, ring) {
		return false
	}
	return slices.ContainsFunc(allStood(f, ring), func(s stood) bool { return s.at == at && isCounting(s) })
}

// placeOfCursor is -1 without one.
func placeOfCursor(r impl.Ring, group int64) int {
	return slices.IndexFunc(r.Cursors, func(c impl.Cursor) bool { return c.Group == group })
}

func wantSubscribe(f impl.Fabric, right bool, group, ring int64) impl.FabricOut {
	if !right {
		return told(impl.ErrForm)
	}
	if !isThere(f, ring) {
		return told(impl.ErrRange)
	}
	if group < 1 || group > 9 {
		return told(impl.ErrForm)
	}
	f = cloneFabric(f)
	r := &f.Rings[ring]
	if placeOfCursor(*r, group) >= 0 {
		return told(impl.ErrThere)
	}
	if len(r.Cursors) == 4 {
		return told(impl.ErrFull)
	}
	r.Cursors = append(r.Cursors, impl.Cursor{Group: group, At: r.First})
	slices.SortFunc(r.Cursors, func(a, b impl.Cursor) int { return cmp.Compare(a.Group, b.Group) })
	return impl.FabricOut{Fabric: f}
}

// dropPassed lets go what lies ahead of all who follow.
func dropPassed(r *impl.Ring) {
	for len(r.Cursors) > 0 && !slices.ContainsFunc(r.Cursors, func(c impl.Cursor) bool { return c.At == r.First }) {
		r.Recs = r.Recs[1:]
		r.First++
	}
}

func wantForget(f impl.Fabric, right bool, group, ring int64) impl.FabricOut {
	if !right {
		return told(impl.ErrForm)
	}
	if !isThere(f, ring) {
		return told(impl.ErrRange)
	}
	f = cloneFabric(f)
	r := &f.Rings[ring]
	own := placeOfCursor(*r, group)
	if own < 0 {
		return told(impl.ErrNone)
	}
	r.Cursors = slices.Delete(r.Cursors, own, own+1)
	dropPassed(r)
	return impl.FabricOut{Fabric: f}
}

// wantHeard is all that is to be told from that place on, whatever most is.
func wantHeard(f impl.Fabric, ring, from int64, loose bool) []stood {
	fits, till := isCounting, wantStable(f, true, ring)
	if loose {
		fits, till = isData, endOf(f.Rings[ring])
	}
	return slices.DeleteFunc(allStood(f, ring), func(s stood) bool { return s.at < from || s.at >= till || !fits(s) })
}

func wantPoll(f impl.Fabric, right bool, group, ring, most int64, loose bool) impl.PollOut {
	if !right || most < 1 || most > 20 {
		return impl.PollOut{Code: impl.ErrForm}
	}
	if !isThere(f, ring) {
		return impl.PollOut{Code: impl.ErrRange}
	}
	own := placeOfCursor(f.Rings[ring], group)
	if own < 0 {
		return impl.PollOut{Code: impl.ErrNone}
	}
	out := impl.PollOut{Fabric: cloneFabric(f)}
	r := &out.Fabric.Rings[ring]
	from := r.Cursors[own].At
	// All up to there is looked at, unless most were told ahead of it.
	behind := wantStable(f, true, ring)
	if loose {
		behind = endOf(*r)
	}
	behind = max(behind, from)
	for i, s := range wantHeard(f, ring, from, loose) {
		out.Texts = append(out.Texts, s.rec.Data)
		if int64(i)+1 == most {
			behind = s.at + 1
			break
		}
	}
	r.Cursors[own].At = behind
	dropPassed(r)
	return out
}
