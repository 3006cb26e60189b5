package tests

import (
	"slices"

	"loop.example/g00643/impl"
)

// What chapter 6 asks, written a second time, from the document's words.

func countOwed(f impl.Fabric, ring int) int {
	owed := 0
	for _, x := range f.Txns {
		open := x.State == impl.TxOpen && slices.Contains(x.Rings, int64(ring))
		if open || slices.Contains(x.Left, int64(ring)) {
			owed++
		}
	}
	return owed
}

// placeOfOpen is -1 without one.
func placeOfOpen(f impl.Fabric, producer int64) int {
	return slices.IndexFunc(f.Txns, func(x impl.Txn) bool {
		return x.Producer == producer && x.State == impl.TxOpen
	})
}

func isTime(n int64) bool {
	return 0 <= n && n <= 1000000
}

func fabricIsRight(f impl.Fabric) bool {
	if len(f.Rings) < 1 || len(f.Rings) > 4 || len(f.Epochs) != 4 || len(f.Txns) > 12 || !isTime(f.Now) {
		return false
	}
	for _, epoch := range f.Epochs {
		if !isTime(epoch) {
			return false
		}
	}
	var open [5]int
	for _, x := range f.Txns {
		if !impl.TxnRight(x) || x.Epoch > f.Epochs[x.Producer-1] {
			return false
		}
		if len(x.Rings) > 0 && slices.Max(x.Rings) >= int64(len(f.Rings)) {
			return false
		}
		if x.State == impl.TxOpen {
			open[x.Producer]++
			if open[x.Producer] > 1 || x.Epoch < f.Epochs[x.Producer-1] || x.Until <= f.Now {
				return false
			}
		}
	}
	for ring := range f.Rings {
		if !ringFits(f, ring) {
			return false
		}
	}
	return true
}

func ringFits(f impl.Fabric, ring int) bool {
	r := f.Rings[ring]
	if !impl.RingRight(r) {
		return false
	}
	for _, text := range r.Recs {
		number := int(impl.RecRead(text).Rec.Txn)
		if number > len(f.Txns) || !slices.Contains(f.Txns[number-1].Rings, int64(ring)) {
			return false
		}
	}
	used := len(r.Recs) + countOwed(f, ring)
	return used <= int(r.Cap) && int(r.First)+used <= 1000000
}

func told(code int64) impl.FabricOut {
	return impl.FabricOut{Code: code}
}

func takeBack(x *impl.Txn) {
	x.State = impl.TxAbort
	x.Left = slices.Clone(x.Rings)
}

func noProducer(producer int64) bool {
	return producer != 1 && producer != 2 && producer != 3 && producer != 4
}

func fenced(f impl.Fabric, producer, epoch int64) bool {
	return epoch == 0 || f.Epochs[producer-1] != epoch
}

func wantInit(f impl.Fabric, right bool, producer int64) impl.FabricOut {
	if !right || noProducer(producer) {
		return told(impl.ErrForm)
	}
	if f.Epochs[producer-1] == 1000000 {
		return told(impl.ErrFull)
	}
	f = cloneFabric(f)
	f.Epochs[producer-1]++
	if at := placeOfOpen(f, producer); at >= 0 {
		takeBack(&f.Txns[at])
	}
	return impl.FabricOut{Fabric: f, N: f.Epochs[producer-1]}
}

func wantBegin(f impl.Fabric, right bool, producer, epoch, life int64) impl.FabricOut {
	if !right || noProducer(producer) || life < 1 || life > 100 || f.Now > 999900 {
		return told(impl.ErrForm)
	}
	if fenced(f, producer, epoch) {
		return told(impl.ErrFenced)
	}
	if placeOfOpen(f, producer) >= 0 {
		return told(impl.ErrState)
	}
	if len(f.Txns) == 12 {
		return told(impl.ErrFull)
	}
	f = cloneFabric(f)
	f.Txns = append(f.Txns, impl.Txn{Producer: producer, Epoch: epoch, State: impl.TxOpen, Until: f.Now + life})
	return impl.FabricOut{Fabric: f, N: int64(len(f.Txns))}
}

func wantSend(f impl.Fabric, right bool, producer, epoch, ring int64, data string) impl.FabricOut {
	if len(data) > 8000 {
		return told(impl.ErrSize)
	}
	if !right || noProducer(producer) || len(data) > 16 {
		return told(impl.ErrForm)
	}
	if fenced(f, producer, epoch) {
		return told(impl.ErrFenced)
	}
	if ring < 0 || ring >= int64(len(f.Rings)) {
		return told(impl.ErrRange)
	}
	at := placeOfOpen(f, producer)
	if at < 0 {
		return told(impl.ErrState)
	}
	return wantSent(cloneFabric(f), at, ring, data)
}

func wantSent(f impl.Fabric, at int, ring int64, data string) impl.FabricOut {
	r, x := &f.Rings[ring], &f.Txns[at]
	r.Recs = append(r.Recs, recText(dataRec(int64(at)+1, data)))
	if !slices.Contains(x.Rings, ring) {
		x.Rings = append(x.Rings, ring)
		slices.Sort(x.Rings)
	}
	// What would no longer fit is what it may not be sent for.
	used := int64(len(r.Recs) + countOwed(f, int(ring)))
	if used > r.Cap || r.First+used > 1000000 {
		return told(impl.ErrFull)
	}
	return impl.FabricOut{Fabric: f, N: r.First + int64(len(r.Recs)) - 1}
}

func wantEnd(f impl.Fabric, right bool, producer, epoch int64, commit bool) impl.FabricOut {
	if !right || noProducer(producer) {
		return told(impl.ErrForm)
	}
	if fenced(f, producer, epoch) {
		return told(impl.ErrFenced)
	}
	at := placeOfOpen(f, producer)
	if at < 0 {
		return told(impl.ErrState)
	}
	f = cloneFabric(f)
	takeBack(&f.Txns[at])
	if commit {
		f.Txns[at].State = impl.TxCommit
	}
	return impl.FabricOut{Fabric: f, N: int64(at) + 1}
}

func wantHelp(f impl.Fabric, right bool) impl.FabricOut {
	if !right {
		return told(impl.ErrForm)
	}
	at := slices.IndexFunc(f.Txns, func(x impl.Txn) bool { return len(x.Left) > 0 })
	if at < 0 {
		return told(impl.ErrNone)
	}
	f = cloneFabric(f)
	x := &f.Txns[at]
	rec := impl.Rec{Kind: impl.RcAbort, Txn: int64(at) + 1}
	if x.State == impl.TxCommit {
		rec.Kind = impl.RcCommit
	}
	r := &f.Rings[x.Left[0]]
	r.Recs = append(r.Recs, recText(rec))
	x.Left = x.Left[1:]
	return impl.FabricOut{Fabric: f, N: int64(at) + 1}
}

func wantTick(f impl.Fabric, right bool, by int64) impl.FabricOut {
	if !right || by < 0 || by > 1000000 || f.Now+by > 1000000 {
		return told(impl.ErrForm)
	}
	out := impl.FabricOut{Fabric: cloneFabric(f)}
	out.Fabric.Now += by
	for i := range out.Fabric.Txns {
		x := &out.Fabric.Txns[i]
		if x.State == impl.TxOpen && x.Until <= out.Fabric.Now {
			takeBack(x)
			out.N++
		}
	}
	return out
}
